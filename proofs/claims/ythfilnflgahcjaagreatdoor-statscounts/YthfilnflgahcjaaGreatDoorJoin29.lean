/- Numbers, told: AppendInt at every number. A row of bytes that grows inside one statement, whatever order the statement's operations are drawn in. The statement that tells a byte by its number, operation by operation, in whatever order. -/
import Derived.Test.YthfilnflgahcjaaGreatDoorJoin28
import Derived.Test.YthfilnflgahcjaaGreatDoorShelf6
import Derived.Test.YthfilnflgahcjaaGreatDoorJoin10
namespace Go.Proofs.YthfilnflgahcjaaGreatDoor
open Go.RowKit Go.Shelf Go.Lib Go.Sort
set_option linter.all false
def Jfk (i:Int):Prop:=∀ (base n:Nat) (v:Value) (xs:List Value) (w:World),w.ownsRow base 5 1 v n xs->base<=w.heap.size->n<=1000000000->TB base w ->
 Calls Tryz.prog 202 #[v,.int .i64 i,.int .i64 10] w fun e w'=>∃ p,e=.returned p/\Zaa base n xs v w (itoa i) p w'
theorem Zcs {ops:Array Oper} {rest:List Oper} {o:Oper} {a:Act} {Q:Exit->Act->World->Prop} (w:World) (a4:o.guard=none) (sl x:Operand)
  (ho:o.op=.call { callee:=.builtin .append,args:=#[sl,x],argTypes:=#[116,116] }) (base n:Nat) (v:Value) (xs:List Value) (hs:a.eval sl=v) (f:w.ownsRow base 5 1 v n xs) (ad:Addr) (m c:Nat) (bs:List UInt8) (hx:a.eval x=.slice (some ad) m c)
  (hm:bs.length=m) (hc:∀ j u,(byteCells bs)[j]?=some u->w.cell? (ad.add j)=some u) (hn:n+m<=100000000000000) (hB:base<=w.heap.size)
  (h:∀ p w',Zaa base n xs v w bs p w'->wpList Tryz.prog ops Q rest (a.put o.dst p) w'):wpList Tryz.prog ops Q (o::rest) a w:=by
 refine wpList_plain a4 fun K hK=>?_
 obtain ⟨i0,hi,b3,a9,a6⟩:=info_parts Tryz.info5
 obtain ⟨p,w',hr,h2,h3,_,h5⟩:=run_append_own_at (P:=Tryz.prog) w base 116 o.type 5 i0 (.int .u8 0) 1 1 Tryz.underlying116 hi b3 a9 a6 rfl (by decide) v n xs f ad m c (byteCells bs) (by rw [byteCells_length,hm,Nat.mul_one]) hc
  (by intro u hu;simp only [byteCells,List.mem_map] at hu;obtain ⟨b,_,rfl⟩:=hu;rfl) (by unfold maxLen;omega) (by omega) hB
 unfold Oper.wp execOp
 simp only [ho,resolve,invoke,builtin,Sem.run_bind,Sem.run_pure,Result.andThen_ok,List.map_toArray,List.map_cons,List.map_nil,hs,hx,hr]
 exact hK _ _ (h p w' ⟨by rw [hm];exact h2,h3,h5.imp id fun e=>⟨_,e,Nat.le_refl _⟩⟩)
theorem Zi9 (u:Nat):0<(decDigits u).length:=by
 rw [decDigits_length]
 by_cases h:u<10
 ·rw [nDigits_small h];omega
 ·rw [nDigits_big h];omega
set_option maxRecDepth 100000 in
set_option maxHeartbeats 4000000 in
theorem Zj6 (u:Nat) (hu:u<100) (base n:Nat) (v:Value) (xs:List Value) (w:World) (f:w.ownsRow base 5 1 v n xs) (hB:base<=w.heap.size) (hn:n<=1000000000000) :
  Calls Tryz.prog 253 #[v,.int .u64 u,.int .i64 10] w fun e w'=>∃ p,e=.returned p/\Zaa base n xs v w (decDigits u) p w':=by
 have HS:Hid (∀ W,Calls Tryz.prog 163 #[.int .i64 u] W fun e w'=>e=.returned (.string ⟨(decDigits u).toArray⟩)/\w'=W):=fun W=>Any.internal_strconv_small (ρ:=Tryz.laysM176_ren) { Tryz.laysM176 with } u hu W
 have a0:(decDigits u).length<=20:=by
  rw [decDigits_length]
  by_cases h10:u<10
  ·rw [nDigits_small h10];omega
  ·rw [nDigits_big h10,nDigits_small (show u / 10<10 by omega)];omega
 have M:(⟨(decDigits u).toArray⟩:ByteArray).size=(decDigits u).length:=by simp [ByteArray.size]
 have hp:=Zi9 u
 have b1:(u:Int)<100:=by omega
 obtain ⟨ds,t⟩:∃ d,decDigits u=d:=⟨_,rfl⟩
 rw [t] at HS a0 M hp |-
 clear t
 go_enter Tryz.func253,Tryz.ntmps253
 go_wp2_with fail
 refine (HS.out w).mono ?_
 rintro e _ ⟨rfl,rfl⟩
 go_wp2_with (at_builtin;refine Zab _ rfl _ _ rfl base n v xs rfl f ⟨ds.toArray⟩ rfl (by rw [M];exact hp) (by rw [M];omega) hB ?_;intro p w' ht)
 have E:=Za ht
 clear ht
 go_ret
 exact ⟨_,rfl,E.out⟩
set_option maxRecDepth 100000 in
set_option maxHeartbeats 8000000 in
theorem Zl5 (u:Nat) (hu:100<=u) (g:u<18446744073709551616) (base n:Nat) (v:Value) (xs:List Value) (w:World) (f:w.ownsRow base 5 1 v n xs) (hB:base<=w.heap.size) (hn:n<=1000000000000)
  (l:TabIs Tryz.prog w "internal/strconv.uint64pow10" .u64 pow10Tab) :
  Calls Tryz.prog 253 #[v,.int .u64 u,.int .i64 10] w fun e w'=>∃ p,e=.returned p/\Zaa base n xs v w (decDigits u) p w':=by
 have F:1<=u:=by omega
 have b1:¬ (u:Int)<100:=by omega
 have N:nDigits u<=20:=by have:=numDigits_eq u F g;split at this<;>omega
 obtain ⟨r,q⟩:∃ r,w.alloc (.cells zeros24 227)=r:=⟨_,rfl⟩
 have y:Below w.heap.size w r:=q▸(Below.refl _ _).alloc (Nat.le_refl _) _
 have I:Hid (Calls Tryz.prog 164 #[.int .u64 u] r fun e w'=>e=.returned (.int .i64 (nDigits u))/\w'=r):=Any.internal_strconv_numDigits (ρ:=Tryz.laysM176_ren) { Tryz.laysM176 with } u F g r (q▸tabIs_alloc l _)
 have R:Holds (fun (b:UInt8)=>Value.int .u8 (b.toNat:Int)) r w.heap.size 0 (Array.replicate (nDigits u) (0:UInt8)):=q▸holds_zero0 w 227 (nDigits u) (by omega)
 have S:Hid (Calls Tryz.prog 165 #[.slice (some ⟨w.heap.size,0,none⟩) (nDigits u) 24,.int .u64 u] r fun e w'=>e=.returned (.tuple #[])/\∃ (k p:Nat) (z:Array UInt8),w'=(putRow (fun (b:UInt8)=>Value.int .u8 (b.toNat:Int)) r w.heap.size 0 z).drewN k/\FmtInv (nDigits u) u 0 p z):=by
  have:=Any.internal_strconv_formatBase10 (ρ:=Tryz.laysM176_ren) { Tryz.laysM176 with } w.heap.size 0 24 u (Array.replicate (nDigits u) 0) r R (by rw [Array.size_replicate];exact lt_pow_nDigits u) g (by rw [Array.size_replicate];omega)
  rw [Array.size_replicate] at this
  exact this
 have O:Tryz.prog.arrayLen 227=24:=by kernel_rfl
 have a8:∀ W:World,(Instr.sliceAt 227 (.pointer (some ⟨w.heap.size,0,none⟩)) none (some (.int .i64 (nDigits u:Int))) none).run Tryz.prog W=.ok (.slice (some ⟨w.heap.size,0,none⟩) (nDigits u) 24) W:=fun W=>by
  rw [run_sliceAt_array_h W 227 ⟨w.heap.size,0,none⟩ (by kernel_rfl) .i64 (nDigits u:Int) (by omega) (by rw [O];omega)]
  rw [O]
  go_simp
 have HR:Hid (∀ k z p,FmtInv (nDigits u) u 0 p z->Below w.heap.size w ((putRow (fun (b:UInt8)=>Value.int .u8 (b.toNat:Int)) r w.heap.size 0 z).drewN k) /\
   ∀ j c,(byteCells (decDigits u))[j]?=some c->((putRow (fun (b:UInt8)=>Value.int .u8 (b.toNat:Int)) r w.heap.size 0 z).drewN k).cell? ((⟨w.heap.size,0,none⟩:Addr).add j)=some c):=fun k z p T=>by
  refine ⟨?_,fun j c U=>?_⟩
  ·obtain ⟨os,eo⟩:=fin_at w (.cells zeros24 227) z k 0
   rw [<- q,eo]
   exact below_grow w.heap.size w (Nat.le_refl _) k os
  ·have B:j<(decDigits u).length:=by
    have h5:=(List.getElem?_eq_some_iff.1 U).1
    rwa [byteCells_length] at h5
   have e5:(byteCells (decDigits u))[j]?=some (Value.int .u8 ((decDigits u)[j].toNat:Int)):=by simp [byteCells,B]
   rw [e5] at U
   cases U
   rw [row_is_numeral T j B,add_plain,World.cell?_drewN]
   exact cell?_putRow (fun (b:UInt8)=>Value.int .u8 (b.toNat:Int)) _ w.heap.size 0 _ z R (by rw [T.size,Array.size_replicate]) j (by rw [T.size];rw [decDigits_length] at B;exact B)
 have a2:=decDigits_length u
 have C:=Za q
 have HO:=Za (And.intro f hB)
 clear q y R l O f
 obtain ⟨nd,D⟩:∃ m,nDigits u=m:=⟨_,rfl⟩
 obtain ⟨ds,t⟩:∃ d,decDigits u=d:=⟨_,rfl⟩
 rw [D,t] at a2
 rw [D] at a8 N S I
 rw [D,t] at HR
 rw [t]
 clear D t
 go_enter Tryz.func253,Tryz.ntmps253
 go_wp2_with fail
 show Calls Tryz.prog 164 _ (w.alloc (.cells zeros24 227)) _
 rw [C.out]
 refine I.out.mono ?_
 rintro e w1 ⟨rfl,X⟩
 rw [X]
 clear I C X
 go_wp2_with fail
 refine S.out.mono ?_
 rintro e w2 ⟨rfl,k,p,z,rfl,T⟩
 obtain ⟨A,a1⟩:=HR.out k z p T
 generalize (putRow (fun (b:UInt8)=>Value.int .u8 (b.toNat:Int)) r w.heap.size 0 z).drewN k=W2 at A a1 |-
 have L:=Zcl HO.out.1 A
 have a7:base<=W2.heap.size:=Nat.le_trans HO.out.2 A.size
 have a5:=Za A
 clear A S HR T
 go_wp2_with (at_builtin;refine Zcs _ rfl _ _ rfl base n v xs rfl L ⟨w.heap.size,0,none⟩ nd 24 ds rfl a2 a1 (by omega) a7 ?_;intro v3 w3 ht)
 have E:=Za (ht.from a5.out)
 clear ht
 go_ret
 exact ⟨_,rfl,E.out⟩
theorem Zhd (u:Nat) (g:u<18446744073709551616) (base n:Nat) (v:Value) (xs:List Value) (w:World) (f:w.ownsRow base 5 1 v n xs) (hB:base<=w.heap.size) (hn:n<=1000000000000)
  (l:TabIs Tryz.prog w "internal/strconv.uint64pow10" .u64 pow10Tab) :
  Calls Tryz.prog 253 #[v,.int .u64 u,.int .i64 10] w fun e w'=>∃ p,e=.returned p/\Zaa base n xs v w (decDigits u) p w':=by
 by_cases h:u<100
 ·exact Zj6 u h base n v xs w f hB hn
 ·exact Zl5 u (by omega) g base n v xs w f hB hn l
set_option maxRecDepth 100000 in
set_option maxHeartbeats 4000000 in
theorem Zp8 (i:Int) (h0:-9223372036854775808<=i) (h1:i<=9223372036854775807) (base n:Nat) (v:Value) (xs:List Value) (w:World) (f:w.ownsRow base 5 1 v n xs) (hB:base<=w.heap.size) (hn:n<=1000000000) (l:TabBelow Tryz.prog base w "internal/strconv.uint64pow10" .u64 pow10Tab) :
  Calls Tryz.prog 239 #[v,.int .i64 i,.int .i64 10] w fun e w'=>∃ p,e=.returned p/\Zaa base n xs v w (itoa i) p w':=by
 by_cases hneg:i<0
 ·obtain ⟨u,rfl⟩:∃ u:Nat,i=-(u:Int):=⟨i.natAbs,by omega⟩
  have F:1<=u:=by omega
  have g:u<18446744073709551616:=by omega
  have b2:IntKind.u64.wrap (-IntKind.u64.wrap (-(u:Int)))=(u:Int):=by rw [IntKind.wrap_u64,IntKind.wrap_u64];omega
  rw [itoa_neg u F]
  obtain ⟨r,q⟩:∃ r,w.alloc (.cells #[.int .u8 45] 5)=r:=⟨_,rfl⟩
  have y:Below w.heap.size w r:=q▸(Below.refl _ _).alloc (Nat.le_refl _) _
  have s:=Zcl f y
  have G:base<=r.heap.size:=Nat.le_trans hB y.size
  have a3:∀ j c,(byteCells [45])[j]?=some c->r.cell? ((⟨w.heap.size,0,none⟩:Addr).add j)=some c:=fun j c U=>by
   rw [<- q];exact cell_one_new w (.int .u8 45) 5 j c U
  have HX:=Za (And.intro y (And.intro l (And.intro s G)))
  have C:=Za q
  clear q y l f
  go_enter Tryz.func239,Tryz.ntmps239
  go_wp2_with (at_builtin;rw [C.out];refine Zcs r rfl _ _ rfl base n v xs rfl s ⟨w.heap.size,0,none⟩ 1 1 [45] rfl rfl a3 (by omega) G ?_;intro v1 w1 ht)
  have Y:Below base w w1:=(HX.out.1.mono hB).trans (ht.below s G)
  have H:=Za (Zhd u g base (n+1) v1 (xs++byteCells [45]) w1 ht.own (Nat.le_trans G ht.grown.size) (by omega) (HX.out.2.1 w1 Y))
  have E:=Za ht
  clear ht Y s a3
  refine H.out.mono ?_
  rintro e w2 ⟨v2,rfl,V⟩
  have b4:Hid (Zaa base n xs v w (45::decDigits u) v2 w2):=(E.out.trans (bs:=[45]) V).from HX.out.1
  clear V H
  go_wp2_with fail
  go_ret
  exact ⟨_,rfl,b4.out⟩
 ·obtain ⟨u,rfl⟩:∃ u:Nat,i=(u:Int):=⟨i.toNat,by omega⟩
  have g:u<18446744073709551616:=by omega
  have b2:IntKind.u64.wrap (u:Int)=(u:Int):=by rw [IntKind.wrap_u64];omega
  rw [itoa_nonneg u]
  have H:=Za (Zhd u g base n v xs w f hB (by omega) (l w (Below.refl _ _)))
  clear f l
  go_enter Tryz.func239,Tryz.ntmps239
  go_wp2_with fail
  refine H.out.mono ?_
  rintro e w' ⟨p,rfl,ht⟩
  have E:=Za ht
  clear ht H
  go_wp2_with fail
  go_ret
  exact ⟨_,rfl,E.out⟩
theorem Zxt (i:Int) (h0:-9223372036854775808<=i) (h1:i<=9223372036854775807):Jfk i:=by
 intro base n v xs w f hB hn b0
 have H:=Za (Zp8 i h0 h1 base n v xs w f hB hn b0.2)
 clear f
 go_enter Tryz.func202,Tryz.ntmps202
 go_wp2_with fail
 refine H.out.mono ?_
 rintro e w' ⟨p,rfl,ht⟩
 have E:=Za ht
 clear ht H
 go_wp2_with fail
 go_ret
 exact ⟨_,rfl,E.out⟩
end Go.Proofs.YthfilnflgahcjaaGreatDoor

namespace Go.Proofs.YthfilnflgahcjaaGreatDoor
open Go.RowKit Go.Shelf Go.Lib
set_option linter.all false
structure Zad where
 pos:List Nat
 add:List (List UInt8)
 side:List (Nat × List UInt8)
namespace Zad
def row (C:Zad) (v:Value) (vs:Nat->Value):Nat->Value
 | 0=>v
 | k+1=>vs (C.pos.getD k 0)
def sofar (C:Zad) (k:Nat):List UInt8:=(C.add.take k).flatten
def Far (C:Zad) (base n:Nat) (v:Value) (xs:List Value) (w0:World) (l:Nat->Bool) (vs:Nat->Value) (w:World):Prop :=
 ∃ k,k<=C.pos.length/\(∀ j,j<C.pos.length->l (C.pos.getD j 0)=decide (j<k))/\Zaa base n xs v w0 (C.sofar k) (C.row v vs k) w /\
  ∀ s ∈ C.side,l s.1=true->∃ t,vs s.1=.slice (some ⟨t,0,none⟩) s.2.length s.2.length/\(∀ j u,(byteCells s.2)[j]?=some u->w.cell? ⟨t,j,none⟩=some u)/\some t≠(C.row v vs k).ownBlock/\t<w.heap.size
def apart (C:Zad):Bool:=decide (C.pos.Nodup/\(C.side.map (·.1)).Nodup/\∀ s ∈ C.side,s.1 ∉ C.pos)&&decide (C.add.length=C.pos.length)
end Zad
theorem Zpw {α:Type} {l:List α} (h:l.Nodup) {i j:Nat} (d:i<l.length) (f:j<l.length) (e:l[i]=l[j]):i=j:=by
 rcases Nat.lt_trichotomy i j with m | m | m
 ·exact absurd e (List.pairwise_iff_getElem.1 h i j d f m)
 ·exact m
 ·exact absurd e.symm (List.pairwise_iff_getElem.1 h j i f d m)
variable {base n:Nat} {v:Value} {xs:List Value} {w0:World}
theorem Zad.row_upd {C:Zad} {vs:Nat->Value} {i k:Nat} {u:Value} (d:i ∉ C.pos) (hk:k<=C.pos.length):C.row v (upd vs i u) k=C.row v vs k:=by
 cases k with
 | zero=>rfl
 | succ k =>
  show upd vs i u (C.pos.getD k 0)=vs (C.pos.getD k 0)
  refine Zb _ _ fun e=>d ?_
  rw [<- e,List.getD_eq_getElem?_getD,List.getElem?_eq_getElem (by omega)]
  exact List.getElem_mem _
theorem Zad.get_mem {C:Zad} {j:Nat} (h:j<C.pos.length):C.pos.getD j 0 ∈ C.pos:=by
 rw [List.getD_eq_getElem?_getD,List.getElem?_eq_getElem h];exact List.getElem_mem _
theorem Zad.get_ne {C:Zad} (hn:C.pos.Nodup) {i j:Nat} (d:i<C.pos.length) (f:j<C.pos.length) (h:i≠j):C.pos.getD i 0≠C.pos.getD j 0:=by
 rw [List.getD_eq_getElem?_getD,List.getElem?_eq_getElem d,List.getD_eq_getElem?_getD,List.getElem?_eq_getElem f]
 intro e
 exact h (Zpw hn d f e)
theorem Zad.Far.beside {C:Zad} {l:Nat->Bool} {vs:Nat->Value} {w:World} (h:C.Far base n v xs w0 l vs w) {i:Nat} (d:i ∉ C.pos) (S:∀ s ∈ C.side,s.1≠i) (u:Value):C.Far base n v xs w0 (upd l i true) (upd vs i u) w:=by
 obtain ⟨k,hk,hl,ht,b⟩:=h
 refine ⟨k,hk,fun j f=>?_,?_,fun s hm o=>?_⟩
 ·rw [Zb _ _ (fun e=>d (by rw [<- e];exact get_mem f))];exact hl j f
 ·rw [Zad.row_upd d hk];exact ht
 ·rw [Zb _ _ (S s hm)] at o
  obtain ⟨t,m,K,P,V⟩:=b s hm o
  exact ⟨t,by rw [Zb _ _ (S s hm)];exact m,K,by rw [Zad.row_upd d hk];exact P,V⟩
theorem Zad.Far.built {C:Zad} {l:Nat->Bool} {vs:Nat->Value} {w:World} (r:C.apart=true) (h:C.Far base n v xs w0 l vs w) {s:Nat × List UInt8} (hm:s ∈ C.side) :
  C.Far base n v xs w0 (upd l s.1 true) (upd vs s.1 (.slice (some ⟨w.heap.size,0,none⟩) s.2.length s.2.length)) (w.alloc (.cells (byteCells s.2).toArray 5)):=by
 simp only [Zad.apart,Bool.and_eq_true,decide_eq_true_eq] at r
 obtain ⟨⟨m,K,P⟩,_⟩:=r
 have d:=P s hm
 obtain ⟨k,hk,hl,ht,b⟩:=h
 have hb:Below w.heap.size w (w.alloc (.cells (byteCells s.2).toArray 5)):=(Below.refl _ _).alloc (Nat.le_refl _) _
 have Y:(w.alloc (.cells (byteCells s.2).toArray 5)).heap.size=w.heap.size+1:=by simp
 refine ⟨k,hk,fun j f=>?_,?_,fun q Q F=>?_⟩
 ·rw [Zb _ _ (fun e=>d (by rw [<- e];exact get_mem f))];exact hl j f
 ·rw [Zad.row_upd d hk];exact ht.upto hb
 ·rw [Zad.row_upd d hk]
  by_cases e:q.1=s.1
  ·obtain rfl:q=s:=by
    have hp:=List.pairwise_map.1 K
    rcases List.mem_iff_getElem.1 Q with ⟨T,b1,e1⟩
    rcases List.mem_iff_getElem.1 hm with ⟨R,b2,e2⟩
    have:T=R:=by
     have hh:(C.side.map (·.1))[T]'(by simpa using b1)=(C.side.map (·.1))[R]'(by simpa using b2):=by simp [e1,e2,e]
     exact Zpw K _ _ hh
    subst this
    rw [<- e1,<- e2]
   refine ⟨w.heap.size,by rw [Ja],fun j u x=>?_,fun e=>?_,by omega⟩
   ·exact Zh _ _ _ j u (by simpa using x)
   ·have:=(ht.own.lt _ e.symm).2
    omega
  ·rw [Zb _ _ e] at F
   obtain ⟨t,H,I,L,M⟩:=b q Q F
   exact ⟨t,by rw [Zb _ _ e];exact H,fun j u x=>(hb.cell (p:=⟨t,j,none⟩) M).trans (I j u x),L,by omega⟩
theorem Zad.Far.at {C:Zad} {l:Nat->Bool} {vs:Nat->Value} {w:World} (h:C.Far base n v xs w0 l vs w) {j:Nat} (f:j<C.pos.length) (N:l (C.pos.getD j 0)=false) (m:j=0\/l (C.pos.getD (j - 1) 0)=true) :
  Zaa base n xs v w0 (C.sofar j) (C.row v vs j) w/\∀ s ∈ C.side,l s.1=true->∃ t,vs s.1=.slice (some ⟨t,0,none⟩) s.2.length s.2.length/\(∀ j u,(byteCells s.2)[j]?=some u->w.cell? ⟨t,j,none⟩=some u):=by
 obtain ⟨k,hk,hl,ht,b⟩:=h
 have B:=hl j f
 rw [N] at B
 have X:¬ j<k:=by simpa using B.symm
 have:k=j:=by
  rcases m with rfl | m
  ·omega
  ·have y:=hl (j - 1) (by omega)
   rw [m] at y
   have a4:j - 1<k:=by simpa using y.symm
   omega
 subst this
 exact ⟨ht,fun s hm o=>by obtain ⟨t,H,I,_⟩:=b s hm o;exact ⟨t,H,I⟩⟩
theorem Zad.Far.on {C:Zad} {l:Nat->Bool} {vs:Nat->Value} {w w':World} {u:Value} (r:C.apart=true) (h:C.Far base n v xs w0 l vs w) {j:Nat} (f:j<C.pos.length) (N:l (C.pos.getD j 0)=false) (m:j=0\/l (C.pos.getD (j - 1) 0)=true)
  (x:Zaa base (n+(C.sofar j).length) (xs++byteCells (C.sofar j)) (C.row v vs j) w (C.add.getD j []) u w'):C.Far base n v xs w0 (upd l (C.pos.getD j 0) true) (upd vs (C.pos.getD j 0) u) w':=by
 have U:=r
 simp only [Zad.apart,Bool.and_eq_true,decide_eq_true_eq] at r
 obtain ⟨⟨n1,n2,W⟩,n4⟩:=r
 obtain ⟨k,hk,hl,ht,b⟩:=h
 have B:=hl j f
 rw [N] at B
 have X:¬ j<k:=by simpa using B.symm
 have:k=j:=by
  rcases m with rfl | m
  ·omega
  ·have y:=hl (j - 1) (by omega)
   rw [m] at y
   have a4:j - 1<k:=by simpa using y.symm
   omega
 subst this
 have O:C.sofar (k+1)=C.sofar k++C.add.getD k []:=by
  unfold Zad.sofar
  rw [List.take_add_one,List.flatten_append,List.getD_eq_getElem?_getD,List.getElem?_eq_getElem (by omega)]
  simp only [Option.toList_some,List.flatten_cons,List.flatten_nil,List.append_nil,Option.getD_some]
 have z:C.row v (upd vs (C.pos.getD k 0) u) (k+1)=u:=by show upd vs _ u _=u;rw [Ja]
 refine ⟨k+1,by omega,fun i d=>?_,?_,fun s hm o=>?_⟩
 ·by_cases e:i=k
  ·subst e;rw [Ja];simp
  ·rw [Zb _ _ (Zad.get_ne n1 d f e),hl i d]
   simp only [decide_eq_decide];omega
 ·rw [z,O];exact ht.trans x
 ·have D:s.1≠C.pos.getD k 0:=fun e=>W s hm (by rw [e];exact get_mem f)
  rw [Zb _ _ D] at o
  obtain ⟨t,H,I,L,M⟩:=b s hm o
  have G:w'.heap[t]?=w.heap[t]?:=x.grown.block t M L
  refine ⟨t,by rw [Zb _ _ D];exact H,fun i c hc=>(World.cell?_of_block (a:=⟨t,i,none⟩) G).trans (I i c hc),?_,Nat.lt_of_lt_of_le M x.grown.size⟩
  rw [z]
  intro e
  rcases x.place with p | ⟨g,p1,p2⟩
  ·exact L (e.trans p)
  ·rw [p1] at e
   have:t=g:=by simpa using e
   omega
theorem Zad.Far.start {C:Zad} {vs:Nat->Value} (E:w0.ownsRow base 5 1 v n xs):C.Far base n v xs w0 (fun _=>false) vs w0.drew :=
 ⟨0,Nat.zero_le _,fun j _=>by simp,(Zdf E).upto (Below.refl _ _).drew,fun s _ h=>by cases h⟩
theorem Zad.Far.end {C:Zad} {l:Nat->Bool} {vs:Nat->Value} {w:World} (h:C.Far base n v xs w0 l vs w) (hl:∀ j,j<C.pos.length->l (C.pos.getD j 0)=true):Zaa base n xs v w0 (C.sofar C.pos.length) (C.row v vs C.pos.length) w:=by
 obtain ⟨k,hk,g,ht,_⟩:=h
 have:k=C.pos.length:=by
  by_cases N:C.pos.length=0
  ·omega
  ·have a:=g (C.pos.length - 1) (by omega)
   rw [hl _ (by omega)] at a
   have:C.pos.length - 1<k:=by simpa using a.symm
   omega
 subst this
 exact ht
end Go.Proofs.YthfilnflgahcjaaGreatDoor

namespace Go.Proofs.YthfilnflgahcjaaGreatDoor
open Go.RowKit Go.Shelf Go.Lib
set_option linter.all false
theorem Zja {o:Oper} {a:Act} {w:World} {K:Act->World->Prop} {Q:Exit->Act->World->Prop} (sl x:Operand) (z:o.op=.call { callee:=.builtin .append,args:=#[sl,x],argTypes:=#[116,9] }) {base m:Nat} {r:Value} {T:List Value} {s:ByteArray}
  (E:a.eval sl=r) (hx:a.eval x=.string s) (y:w.ownsRow base 5 1 r m T) (h0:0<s.size) (hn:m+s.size<=100000000000000) (hB:base<=w.heap.size) (h:∀ H w',Zaa base m T r w s.data.toList H w'->K (a.put o.dst H) w'):Oper.wp Tryz.prog o a w K Q:=by
 obtain ⟨i0,M,U,R,N⟩:=info_parts Tryz.info5
 obtain ⟨H,w',hr,h2,h3,h4⟩:=run_append_own_string (P:=Tryz.prog) w base 116 9 o.type 5 i0 Tryz.underlying116 Tryz.underlying9 M U R N r m T y s (by unfold maxLen;omega) (by omega) hB
 unfold Oper.wp execOp
 simp only [z,resolve,invoke,builtin,Sem.run_bind,Sem.run_pure,Result.andThen_ok,List.map_toArray,List.map_cons,List.map_nil,E,hx,hr]
 exact h H w' ⟨h2,h3,Zjz y h0 hn hr⟩
theorem Zld {o:Oper} {a:Act} {w:World} {K:Act->World->Prop} {Q:Exit->Act->World->Prop} (sl x:Operand) (z:o.op=.call { callee:=.builtin .append,args:=#[sl,x],argTypes:=#[116,116] }) {base m t c:Nat} {r:Value} {T:List Value} {bs:List UInt8}
  (E:a.eval sl=r) (hx:a.eval x=.slice (some ⟨t,0,none⟩) bs.length c) (y:w.ownsRow base 5 1 r m T) (hc:∀ j u,(byteCells bs)[j]?=some u->w.cell? ⟨t,j,none⟩=some u) (hn:m+bs.length<=100000000000000) (hB:base<=w.heap.size) (h:∀ H w',Zaa base m T r w bs H w'->K (a.put o.dst H) w'):Oper.wp Tryz.prog o a w K Q:=by
 obtain ⟨i0,M,U,R,N⟩:=info_parts Tryz.info5
 obtain ⟨H,w',hr,h2,h3,_,h5⟩:=run_append_own_at (P:=Tryz.prog) w base 116 o.type 5 i0 (.int .u8 0) 1 1 Tryz.underlying116 M U R N rfl (by decide) r m T y ⟨t,0,none⟩ bs.length c (byteCells bs) (by rw [byteCells_length,Nat.mul_one]) (fun j u hj=>by rw [Lib.add_plain,Nat.zero_add];exact hc j u hj)
  (by intro u hu;simp only [byteCells,List.mem_map] at hu;obtain ⟨b,_,rfl⟩:=hu;rfl) (by unfold maxLen;omega) (by omega) hB
 unfold Oper.wp execOp
 simp only [z,resolve,invoke,builtin,Sem.run_bind,Sem.run_pure,Result.andThen_ok,List.map_toArray,List.map_cons,List.map_nil,E,hx,hr]
 exact h H w' ⟨h2,h3,h5.imp id fun e=>⟨_,e,Nat.le_refl _⟩⟩
theorem Jfl:∀ m:Nat,m<128->bits .and .u8 (m:Int) 15=(m:Int) % 16:=by decide
def Ziz (m:Nat):UInt8:=([48,49,50,51,52,53,54,55,56,57,97,98,99,100,101,102]:List UInt8).getD m 0
noncomputable def Zdq:Array Oper:=Ze0 Tryz.f240 10
def Zxu (i:Nat):List Nat:=([[],[0],[],[2],[2,3],[],[5],[5,6],[2,3,4,5,6,7],[0,1,2,3,4,5,6,7,8],[0,1,2,3,4,5,6,7,8,9]]:List (List Nat)).getD i []
def Zaj (base n m:Nat) (v:Value) (xs:List Value) (w0:World):Zad:=⟨[1,9,10],[[92,117,48,48],[Ziz (m / 16),Ziz (m % 16)],[]],[(8,[Ziz (m / 16),Ziz (m % 16)])]⟩
def Jhs (base n m:Nat) (v:Value) (xs:List Value) (w0:World) (i:Nat) (u:Value):Prop:=([fun u=>u=(v),fun _=>True,fun u=>u=(.int .u8 (m:Int)),fun u=>u=(.int .u8 ((m / 16:Nat):Int)),fun u=>u=(.int .u8 ((Ziz (m / 16)).toNat:Int)),fun u=>u=(.int .u8 (m:Int)),fun u=>u=(.int .u8 ((m % 16:Nat):Int)),fun u=>u=(.int .u8 ((Ziz (m % 16)).toNat:Int)),fun _=>True,fun _=>True,fun _=>True]:List (Value->Prop)).getD i (fun _=>True) u
structure Jis (base n m:Nat) (v:Value) (xs:List Value) (w0:World) (c:Act):Prop where
 t0:c.eval (.tmp 0)=v
 t1:c.eval (.tmp 1)=.int .u8 (m:Int)
 size:c.tmps.size=52
structure Jit (base n m:Nat) (v:Value) (xs:List Value) (w0:World):Prop where
 own:w0.ownsRow base 5 1 v n xs
 low:base<=w0.heap.size
 few:n<=100000000000
 small:m<128
theorem Zkf (base n m:Nat) (v:Value) (xs:List Value) (w0:World):(Zaj base n m v xs w0).apart=true:=by
 unfold Zad.apart
 rw [Bool.and_eq_true]
 exact ⟨decide_eq_true ⟨by show ([1,9,10]:List Nat).Nodup;decide,by show ([8]:List Nat).Nodup;decide,by
  intro s E
  simp only [Zaj,List.mem_cons,List.not_mem_nil,or_false] at E
  subst E
  show (8:Nat) ∉ ([1,9,10]:List Nat);decide⟩,decide_eq_true rfl⟩
def Zc8 (base n m:Nat) (v:Value) (xs:List Value) (w0:World) (Q:Exit->Act->World->Prop) (i:Nat):Prop:=∀ (l:Nat->Bool) (c:Act) (w:World),Jis base n m v xs w0 c->Jit base n m v xs w0->l i=false->(∀ k,l k=true->∀ j ∈ Zxu k,l j=true)->(∀ j ∈ Zxu i,l j=true/\Jhs base n m v xs w0 j (val Zdq c j))->(Zaj base n m v xs w0).Far base n v xs w0 l (val Zdq c) w->Zd2 Tryz.prog Zdq Q (Jhs base n m v xs w0) ((Zaj base n m v xs w0).Far base n v xs w0) i l c w
section
variable (base n m:Nat) (v:Value) (xs:List Value) (w0:World) (Q:Exit->Act->World->Prop)
set_option maxRecDepth 10000 in
theorem Jfm:Zc8 base n m v xs w0 Q 0:=by
 intro l c w hb C g p B q
 have z:Zdq[0]?=some (⟨some 38,.move (.tmp 0),116, "text.go:94",#[],none⟩:Oper):=by kernel_rfl
 have D:Region.wanted _ (yielded Zdq c.tmps)=true:=Zf (o:=(⟨some 38,.move (.tmp 0),116, "text.go:94",#[],none⟩:Oper)) rfl
 have e0:=hb.t0
 have ec:∀ v,c.eval (.const v)=v:=fun _=>rfl
 have I:∀ f,c.eval (.func f)=.func (.func f) #[] #[]:=fun _=>rfl
 refine Zr (d:=38) z rfl (by rw [hb.size];decide) D (v:=v) ?_ rfl (q.beside (by show (0:Nat) ∉ ([1,9,10]:List Nat);decide) (by intro s E;simp only [Zaj,List.mem_cons,List.not_mem_nil,or_false] at E;subst E;show (8:Nat)≠0;decide) _)
 generalize c.eval=ρ at *
 clear B hb C D z q p g
 go_simp
set_option maxRecDepth 10000 in
theorem Jfn:Zc8 base n m v xs w0 Q 1:=by
 intro l c w hb C g p B q
 have z:Zdq[1]?=some (⟨some 39,.call { callee:=.builtin .append,args:=#[.tmp 38,.const (Value.string { data:=#[92,117,48,48] })],argTypes:=#[116,9] },116, "text.go:94",#[⟨0,.data⟩],none⟩:Oper):=by kernel_rfl
 have D:Region.wanted _ (yielded Zdq c.tmps)=true:=Zf (o:=(⟨some 39,.call { callee:=.builtin .append,args:=#[.tmp 38,.const (Value.string { data:=#[92,117,48,48] })],argTypes:=#[116,9] },116, "text.go:94",#[⟨0,.data⟩],none⟩:Oper)) rfl
 have X:c.eval (.tmp 38)=v:=by have h:=(B 0 (by decide)).2;rw [Jl (show Zo Zdq 0=some 38 by kernel_rfl)] at h;exact h
 have ec:∀ v,c.eval (.const v)=v:=fun _=>rfl
 have I:∀ f,c.eval (.func f)=.func (.func f) #[] #[]:=fun _=>rfl
 obtain ⟨ht,L⟩:=q.at (j:=0) (by show (0:Nat)<3;decide) g (.inl rfl)
 have hB:base<=w.heap.size:=Nat.le_trans C.low ht.grown.size
 have y:=ht.own
 refine Zbw (d:=39) z rfl (by rw [hb.size];decide) fun K hK=>?_
 rw [if_pos D]
 refine Zja (.tmp 38) (Operand.const (Value.string { data:=#[92,117,48,48] })) rfl X rfl y (by decide) (by have:=C.few;show n+_+4<=_;simp [Zad.sofar];omega) hB fun H w' F=>hK H w' trivial (q.on (Zkf base n m v xs w0) (j:=0) (by show (0:Nat)<3;decide) g (.inl rfl) F)
set_option maxRecDepth 10000 in
theorem Jfo:Zc8 base n m v xs w0 Q 2:=by
 intro l c w hb C g p B q
 have z:Zdq[2]?=some (⟨some 40,.move (.tmp 1),5, "text.go:94",#[],none⟩:Oper):=by kernel_rfl
 have D:Region.wanted _ (yielded Zdq c.tmps)=true:=Zf (o:=(⟨some 40,.move (.tmp 1),5, "text.go:94",#[],none⟩:Oper)) rfl
 have e1:=hb.t1
 have ec:∀ v,c.eval (.const v)=v:=fun _=>rfl
 have I:∀ f,c.eval (.func f)=.func (.func f) #[] #[]:=fun _=>rfl
 refine Zr (d:=40) z rfl (by rw [hb.size];decide) D (v:=.int .u8 (m:Int)) ?_ rfl (q.beside (by show (2:Nat) ∉ ([1,9,10]:List Nat);decide) (by intro s E;simp only [Zaj,List.mem_cons,List.not_mem_nil,or_false] at E;subst E;show (8:Nat)≠2;decide) _)
 generalize c.eval=ρ at *
 clear B hb C D z q p g
 go_simp
set_option maxRecDepth 10000 in
theorem Jfp:Zc8 base n m v xs w0 Q 3:=by
 intro l c w hb C g p B q
 have z:Zdq[3]?=some (⟨some 41,.binOp .shr 5 (.tmp 40) (.const (Value.int .u64 4)) 171,5, "text.go:94",#[⟨2,.data⟩],none⟩:Oper):=by kernel_rfl
 have D:Region.wanted _ (yielded Zdq c.tmps)=true:=Zf (o:=(⟨some 41,.binOp .shr 5 (.tmp 40) (.const (Value.int .u64 4)) 171,5, "text.go:94",#[⟨2,.data⟩],none⟩:Oper)) rfl
 have a9:c.eval (.tmp 40)=.int .u8 (m:Int):=by have h:=(B 2 (by decide)).2;rw [Jl (show Zo Zdq 2=some 40 by kernel_rfl)] at h;exact h
 have ec:∀ v,c.eval (.const v)=v:=fun _=>rfl
 have I:∀ f,c.eval (.func f)=.func (.func f) #[] #[]:=fun _=>rfl
 have hm:=C.small
 refine Zr (d:=41) z rfl (by rw [hb.size];decide) D (v:=.int .u8 ((m / 16:Nat):Int)) ?_ rfl (q.beside (by show (3:Nat) ∉ ([1,9,10]:List Nat);decide) (by intro s E;simp only [Zaj,List.mem_cons,List.not_mem_nil,or_false] at E;subst E;show (8:Nat)≠3;decide) _)
 generalize c.eval=ρ at *
 clear B hb C D z q p g
 go_simp
set_option maxRecDepth 10000 in
theorem Jfq:Zc8 base n m v xs w0 Q 4:=by
 intro l c w hb C g p B q
 have z:Zdq[4]?=some (⟨some 42,.index 9 (.const (Value.string { data:=#[48,49,50,51,52,53,54,55,56,57,97,98,99,100,101,102] })) (.tmp 41),5, "text.go:94",#[⟨3,.data⟩],none⟩:Oper):=by kernel_rfl
 have D:Region.wanted _ (yielded Zdq c.tmps)=true:=Zf (o:=(⟨some 42,.index 9 (.const (Value.string { data:=#[48,49,50,51,52,53,54,55,56,57,97,98,99,100,101,102] })) (.tmp 41),5, "text.go:94",#[⟨3,.data⟩],none⟩:Oper)) rfl
 have a1:c.eval (.tmp 41)=.int .u8 ((m / 16:Nat):Int):=by have h:=(B 3 (by decide)).2;rw [Jl (show Zo Zdq 3=some 41 by kernel_rfl)] at h;exact h
 have ec:∀ v,c.eval (.const v)=v:=fun _=>rfl
 have I:∀ f,c.eval (.func f)=.func (.func f) #[] #[]:=fun _=>rfl
 have hm:=C.small
 have hk:m / 16<16:=by omega
 refine Zr (d:=42) z rfl (by rw [hb.size];decide) D (v:=.int .u8 ((Ziz (m / 16)).toNat:Int)) ?_ rfl (q.beside (by show (4:Nat) ∉ ([1,9,10]:List Nat);decide) (by intro s E;simp only [Zaj,List.mem_cons,List.not_mem_nil,or_false] at E;subst E;show (8:Nat)≠4;decide) _)
 obtain ⟨kk,O⟩:∃ x:Nat,m / 16=x:=⟨_,rfl⟩
 rw [O] at a1 hk |-
 obtain ⟨d,W⟩:∃ d,Ziz kk=d:=⟨_,rfl⟩
 rw [W]
 have Y:(kk:Int)<16:=by omega
 generalize c.eval=ρ at *
 clear B hb C D z q p g
 go_simp
 rw [<- W]
 unfold Ziz
 rw [List.getD_eq_getElem?_getD,List.getElem?_eq_getElem (by simpa using hk)]
 rfl
set_option maxRecDepth 10000 in
theorem Jfr:Zc8 base n m v xs w0 Q 5:=by
 intro l c w hb C g p B q
 have z:Zdq[5]?=some (⟨some 43,.move (.tmp 1),5, "text.go:94",#[],none⟩:Oper):=by kernel_rfl
 have D:Region.wanted _ (yielded Zdq c.tmps)=true:=Zf (o:=(⟨some 43,.move (.tmp 1),5, "text.go:94",#[],none⟩:Oper)) rfl
 have e1:=hb.t1
 have ec:∀ v,c.eval (.const v)=v:=fun _=>rfl
 have I:∀ f,c.eval (.func f)=.func (.func f) #[] #[]:=fun _=>rfl
 refine Zr (d:=43) z rfl (by rw [hb.size];decide) D (v:=.int .u8 (m:Int)) ?_ rfl (q.beside (by show (5:Nat) ∉ ([1,9,10]:List Nat);decide) (by intro s E;simp only [Zaj,List.mem_cons,List.not_mem_nil,or_false] at E;subst E;show (8:Nat)≠5;decide) _)
 generalize c.eval=ρ at *
 clear B hb C D z q p g
 go_simp
set_option maxRecDepth 10000 in
theorem Jfs:Zc8 base n m v xs w0 Q 6:=by
 intro l c w hb C g p B q
 have z:Zdq[6]?=some (⟨some 44,.binOp .and 5 (.tmp 43) (.const (Value.int .u8 15)) 5,5, "text.go:94",#[⟨5,.data⟩],none⟩:Oper):=by kernel_rfl
 have D:Region.wanted _ (yielded Zdq c.tmps)=true:=Zf (o:=(⟨some 44,.binOp .and 5 (.tmp 43) (.const (Value.int .u8 15)) 5,5, "text.go:94",#[⟨5,.data⟩],none⟩:Oper)) rfl
 have a7:c.eval (.tmp 43)=.int .u8 (m:Int):=by have h:=(B 5 (by decide)).2;rw [Jl (show Zo Zdq 5=some 43 by kernel_rfl)] at h;exact h
 have ec:∀ v,c.eval (.const v)=v:=fun _=>rfl
 have I:∀ f,c.eval (.func f)=.func (.func f) #[] #[]:=fun _=>rfl
 have hm:=Jfl m C.small
 refine Zr (d:=44) z rfl (by rw [hb.size];decide) D (v:=.int .u8 ((m % 16:Nat):Int)) ?_ rfl (q.beside (by show (6:Nat) ∉ ([1,9,10]:List Nat);decide) (by intro s E;simp only [Zaj,List.mem_cons,List.not_mem_nil,or_false] at E;subst E;show (8:Nat)≠6;decide) _)
 generalize c.eval=ρ at *
 clear B hb C D z q p g
 go_simp
set_option maxRecDepth 10000 in
theorem Jft:Zc8 base n m v xs w0 Q 7:=by
 intro l c w hb C g p B q
 have z:Zdq[7]?=some (⟨some 45,.index 9 (.const (Value.string { data:=#[48,49,50,51,52,53,54,55,56,57,97,98,99,100,101,102] })) (.tmp 44),5, "text.go:94",#[⟨6,.data⟩],none⟩:Oper):=by kernel_rfl
 have D:Region.wanted _ (yielded Zdq c.tmps)=true:=Zf (o:=(⟨some 45,.index 9 (.const (Value.string { data:=#[48,49,50,51,52,53,54,55,56,57,97,98,99,100,101,102] })) (.tmp 44),5, "text.go:94",#[⟨6,.data⟩],none⟩:Oper)) rfl
 have a0:c.eval (.tmp 44)=.int .u8 ((m % 16:Nat):Int):=by have h:=(B 6 (by decide)).2;rw [Jl (show Zo Zdq 6=some 44 by kernel_rfl)] at h;exact h
 have ec:∀ v,c.eval (.const v)=v:=fun _=>rfl
 have I:∀ f,c.eval (.func f)=.func (.func f) #[] #[]:=fun _=>rfl
 have hm:=C.small
 have hk:m % 16<16:=by omega
 refine Zr (d:=45) z rfl (by rw [hb.size];decide) D (v:=.int .u8 ((Ziz (m % 16)).toNat:Int)) ?_ rfl (q.beside (by show (7:Nat) ∉ ([1,9,10]:List Nat);decide) (by intro s E;simp only [Zaj,List.mem_cons,List.not_mem_nil,or_false] at E;subst E;show (8:Nat)≠7;decide) _)
 obtain ⟨kk,O⟩:∃ x:Nat,m % 16=x:=⟨_,rfl⟩
 rw [O] at a0 hk |-
 obtain ⟨d,W⟩:∃ d,Ziz kk=d:=⟨_,rfl⟩
 rw [W]
 have Y:(kk:Int)<16:=by omega
 generalize c.eval=ρ at *
 clear B hb C D z q p g
 go_simp
 rw [<- W]
 unfold Ziz
 rw [List.getD_eq_getElem?_getD,List.getElem?_eq_getElem (by simpa using hk)]
 rfl
set_option maxRecDepth 10000 in
theorem Jfu:Zc8 base n m v xs w0 Q 8:=by
 intro l c w hb C g p B q
 have z:Zdq[8]?=some (⟨some 46,.buildSlice 116 2 #[(0,.tmp 42),(1,.tmp 45)],116, "text.go:94",#[⟨4,.data⟩,⟨7,.data⟩],none⟩:Oper):=by kernel_rfl
 have D:Region.wanted _ (yielded Zdq c.tmps)=true:=Zf (o:=(⟨some 46,.buildSlice 116 2 #[(0,.tmp 42),(1,.tmp 45)],116, "text.go:94",#[⟨4,.data⟩,⟨7,.data⟩],none⟩:Oper)) rfl
 have a5:c.eval (.tmp 42)=.int .u8 ((Ziz (m / 16)).toNat:Int):=by have h:=(B 4 (by decide)).2;rw [Jl (show Zo Zdq 4=some 42 by kernel_rfl)] at h;exact h
 have a8:c.eval (.tmp 45)=.int .u8 ((Ziz (m % 16)).toNat:Int):=by have h:=(B 7 (by decide)).2;rw [Jl (show Zo Zdq 7=some 45 by kernel_rfl)] at h;exact h
 have ec:∀ v,c.eval (.const v)=v:=fun _=>rfl
 have I:∀ f,c.eval (.func f)=.func (.func f) #[] #[]:=fun _=>rfl
 refine Zr (d:=46) z rfl (by rw [hb.size];decide) D (v:=.slice (some ⟨w.heap.size,0,none⟩) 2 2) (w':=w.alloc (.cells (byteCells [Ziz (m / 16),Ziz (m % 16)]).toArray 5)) ?_ trivial (q.built (Zkf base n m v xs w0) (s:=(8,[Ziz (m / 16),Ziz (m % 16)])) (by simp only [Zaj,List.mem_cons,List.not_mem_nil,or_false]))
 generalize c.eval=ρ at *
 clear B hb C D z q p g
 go_simp
 rfl
set_option maxRecDepth 10000 in
theorem Jfv:Zc8 base n m v xs w0 Q 9:=by
 intro l c w hb C g p B q
 have z:Zdq[9]?=some (⟨some 47,.call { callee:=.builtin .append,args:=#[.tmp 39,.tmp 46],argTypes:=#[116,116] },116, "text.go:94",#[⟨1,.data⟩,⟨8,.data⟩,⟨1,.chain⟩],none⟩:Oper):=by kernel_rfl
 have D:Region.wanted _ (yielded Zdq c.tmps)=true:=Zf (o:=(⟨some 47,.call { callee:=.builtin .append,args:=#[.tmp 39,.tmp 46],argTypes:=#[116,116] },116, "text.go:94",#[⟨1,.data⟩,⟨8,.data⟩,⟨1,.chain⟩],none⟩:Oper)) rfl
 have a3:c.eval (.tmp 39)=val Zdq c 1:=(Jl (show Zo Zdq 1=some 39 by kernel_rfl)).symm
 have a4:c.eval (.tmp 46)=val Zdq c 8:=(Jl (show Zo Zdq 8=some 46 by kernel_rfl)).symm
 have ec:∀ v,c.eval (.const v)=v:=fun _=>rfl
 have I:∀ f,c.eval (.func f)=.func (.func f) #[] #[]:=fun _=>rfl
 obtain ⟨ht,L⟩:=q.at (j:=1) (by show (1:Nat)<3;decide) g (.inr (B 1 (by decide)).1)
 have hB:base<=w.heap.size:=Nat.le_trans C.low ht.grown.size
 have y:=ht.own
 refine Zbw (d:=47) z rfl (by rw [hb.size];decide) fun K hK=>?_
 rw [if_pos D]
 obtain ⟨t,a2,hc⟩:=L (8,[Ziz (m / 16),Ziz (m % 16)]) (by simp only [Zaj,List.mem_cons,List.not_mem_nil,or_false]) (B 8 (by decide)).1
 refine Zld (.tmp 39) (.tmp 46) rfl a3 (a4.trans a2) y hc (by have:=C.few;show n+_+2<=_;simp [Zaj,Zad.sofar];omega) hB fun H w' F=>hK H w' trivial (q.on (Zkf base n m v xs w0) (j:=1) (by show (1:Nat)<3;decide) g (.inr (B 1 (by decide)).1) F)
set_option maxRecDepth 10000 in
theorem Jd1:Zc8 base n m v xs w0 Q 10:=by
 intro l c w hb C g p B q
 have z:Zdq[10]?=some (⟨some 4,.assign (.tmp 47),116, "text.go:94",#[⟨9,.data⟩,⟨9,.chain⟩,⟨0,.phase⟩,⟨1,.phase⟩,⟨2,.phase⟩,⟨3,.phase⟩,⟨4,.phase⟩,⟨5,.phase⟩,⟨6,.phase⟩,⟨7,.phase⟩,⟨8,.phase⟩,⟨9,.phase⟩],none⟩:Oper):=by kernel_rfl
 have D:Region.wanted _ (yielded Zdq c.tmps)=true:=Zf (o:=(⟨some 4,.assign (.tmp 47),116, "text.go:94",#[⟨9,.data⟩,⟨9,.chain⟩,⟨0,.phase⟩,⟨1,.phase⟩,⟨2,.phase⟩,⟨3,.phase⟩,⟨4,.phase⟩,⟨5,.phase⟩,⟨6,.phase⟩,⟨7,.phase⟩,⟨8,.phase⟩,⟨9,.phase⟩],none⟩:Oper)) rfl
 have a6:c.eval (.tmp 47)=val Zdq c 9:=(Jl (show Zo Zdq 9=some 47 by kernel_rfl)).symm
 have ec:∀ v,c.eval (.const v)=v:=fun _=>rfl
 have I:∀ f,c.eval (.func f)=.func (.func f) #[] #[]:=fun _=>rfl
 obtain ⟨ht,L⟩:=q.at (j:=2) (by show (2:Nat)<3;decide) g (.inr (B 9 (by decide)).1)
 have hB:base<=w.heap.size:=Nat.le_trans C.low ht.grown.size
 have y:=ht.own
 have F:=Zdf y
 refine Zr (d:=4) z rfl (by rw [hb.size];decide) D (v:=val Zdq c 9) ?_ trivial (q.on (Zkf base n m v xs w0) (j:=2) (by show (2:Nat)<3;decide) g (.inr (B 9 (by decide)).1) F)
 generalize c.eval=ρ at *
 clear B hb C D z q p g ht L hB y F
 go_simp
end
set_option maxRecDepth 100000 in
theorem Jfw (base n m:Nat) (v:Value) (xs:List Value) (w0:World) (Q:Exit->Act->World->Prop):∀ i,i<11->Zc8 base n m v xs w0 Q i:=by
 intro i M
 match i,M with
 | 0,_=>exact Jfm base n m v xs w0 Q
 | 1,_=>exact Jfn base n m v xs w0 Q
 | 2,_=>exact Jfo base n m v xs w0 Q
 | 3,_=>exact Jfp base n m v xs w0 Q
 | 4,_=>exact Jfq base n m v xs w0 Q
 | 5,_=>exact Jfr base n m v xs w0 Q
 | 6,_=>exact Jfs base n m v xs w0 Q
 | 7,_=>exact Jft base n m v xs w0 Q
 | 8,_=>exact Jfu base n m v xs w0 Q
 | 9,_=>exact Jfv base n m v xs w0 Q
 | 10,_=>exact Jd1 base n m v xs w0 Q
theorem Zp9 (base n m:Nat) (v:Value) (xs:List Value) (w0:World) (Q:Exit->Act->World->Prop) (frame:Act) (hb:Jis base n m v xs w0 frame) (C:Jit base n m v xs w0)
  (hQ:∀ c w,Zl2 Zdq frame c->Zaa base n xs v w0 ((Zaj base n m v xs w0).sofar 3) (c.eval (.tmp 4)) w->Q .normal c w):(Code.region 10 Zdq true).wp Tryz.prog Q frame w0:=by
 refine Zdk (A:=Zxu) (G:=Jhs base n m v xs w0) (S:=(Zaj base n m v xs w0).Far base n v xs w0) (by kernel_rfl) (by rw [hb.size];kernel_rfl) (Zad.Far.start C.own) ?_ ?_
 ·intro i M l c w q g p B hF
  exact Jfw base n m v xs w0 Q i (by rwa [show Zdq.size=11 by kernel_rfl] at M) l c w ⟨(Za2 q (by kernel_rfl)).trans hb.t0,(Za2 q (by kernel_rfl)).trans hb.t1,(by rw [<- hb.size];exact q.2.1)⟩ C g p B hF
 ·intro l c w q V hF
  refine hQ c w q ?_
  have:=hF.end (fun j hj=>?_)
  ·have e:(Zaj base n m v xs w0).row v (val Zdq c) (Zaj base n m v xs w0).pos.length=c.eval (.tmp 4):=Jl (show Zo Zdq 10=some 4 by kernel_rfl)
   rw [e] at this
   exact this
  ·have hm:=Zad.get_mem hj
   refine (V _ ?_).1
   rw [show Zdq.size=11 by kernel_rfl]
   have:∀ x ∈ (Zaj base n m v xs w0).pos,x<11:=by show ∀ x ∈ ([1,9,10]:List Nat),x<11;decide
   exact this _ hm
end Go.Proofs.YthfilnflgahcjaaGreatDoor

