/- How great a step is: it is asked, and answered. Rows of things of some cells each: where they lie, rows of the call's own, one more. Maps by keys of some type: what they hold, and what is done to them. Counts by keys: one more of a key. -/
import Derived.Test.YthfilnflgahcjaaGreatDoorJoin1
import Derived.Deep.Cut
import Derived.Laws.AppendOwn
import Derived.Laws.OwnMore
import Derived.Maps.Keyed
import Derived.MapKept
import Derived.WideKeyEntry
namespace Go.Proofs.YthfilnflgahcjaaGreatDoor
open Go.RowKit Go.Shelf
set_option linter.all false
attribute [local go_sem] Oper.semAt_some
def Zii (B:Nat) (w:World) (bl off:Nat) (q:ByteArray × Zd):Prop :=
 w.cell? ⟨bl,off,none⟩=some (.string q.1)/\q.1.size<=maxLen/\∃ d f v2 c j g,(w.cell? ⟨bl,off+1,none⟩=some d/\w.cell? ⟨bl,off+2,none⟩=some f/\w.cell? ⟨bl,off+3,none⟩=some v2/\w.cell? ⟨bl,off+4,none⟩=some c/\w.cell? ⟨bl,off+5,none⟩=some j/\w.cell? ⟨bl,off+6,none⟩=some g)/\Zb6 B w (.agg #[d,f,v2,c,j,g]) q.2
def Zbq (B:Nat) (w:World) (v:Value) (b:List (ByteArray × Zd)):Prop :=
 ∃ pa pc,v=.slice pa b.length pc/\b.length<=pc/\pc<=9223372036854775807/\(b=[]\/∃ bl off,pa=some ⟨bl,off,none⟩/\bl<B/\∀ i q,b[i]?=some q->Zii B w bl (off+i*7) q)
theorem Zii.below {B:Nat} {w w':World} (h:Below B w w') {bl off:Nat} (hl:bl<B) {q:ByteArray × Zd} (t:Zii B w bl off q):Zii B w' bl off q:=by
 obtain ⟨u,k,d,f,v2,c,j,g,⟨c0,c1,c2,c3,c4,c5⟩,s⟩:=t
 exact ⟨(h.cell (p:=⟨bl,off,none⟩) hl).trans u,k,d,f,v2,c,j,g,⟨(h.cell (p:=⟨bl,off+1,none⟩) hl).trans c0,(h.cell (p:=⟨bl,off+2,none⟩) hl).trans c1,(h.cell (p:=⟨bl,off+3,none⟩) hl).trans c2,(h.cell (p:=⟨bl,off+4,none⟩) hl).trans c3,(h.cell (p:=⟨bl,off+5,none⟩) hl).trans c4,(h.cell (p:=⟨bl,off+6,none⟩) hl).trans c5⟩,s.below h⟩
theorem Zbq.below {B:Nat} {w w':World} (h:Below B w w') {v:Value} {b:List (ByteArray × Zd)} (n:Zbq B w v b):Zbq B w' v b:=by
 obtain ⟨pa,pc,e,k,r,o⟩:=n
 exact ⟨pa,pc,e,k,r,o.imp id fun ⟨bl,off,e,hl,l⟩=>⟨bl,off,e,hl,fun i q m=>(l i q m).below h hl⟩⟩
end Go.Proofs.YthfilnflgahcjaaGreatDoor

namespace Go.Proofs.YthfilnflgahcjaaGreatDoor
open Go.RowKit Go.Shelf
set_option linter.all false
def Zal {α:Type} (k:Nat) (enc:α->List Value) (B:Nat) (w:World) (v:Value) (xs:List α):Prop :=
 ∃ a c,v=.slice a xs.length c/\xs.length<=c/\c<=9223372036854775807/\(xs=[]\/∃ bl off,a=some ⟨bl,off,none⟩/\bl<B/\∀ (i:Nat) (x:α),xs[i]?=some x->∀ (j:Nat) (u:Value),(enc x)[j]?=some u->w.cell? ⟨bl,off+i*k+j,none⟩=some u)
theorem Zal.keep {α:Type} {k:Nat} {enc:α->List Value} {B:Nat} {w w':World} {v:Value} {xs:List α} (h:Zal k enc B w v xs) (hb:Below B w w'):Zal k enc B w' v xs:=by
 obtain ⟨a,c,n,o,W,O⟩:=h
 exact ⟨a,c,n,o,W,O.imp id fun ⟨bl,off,e,hl,s⟩=>⟨bl,off,e,hl,fun i x M j u G=>(hb.cell (p:=⟨bl,off+i*k+j,none⟩) hl).trans (s i x M j u G)⟩⟩
theorem Zal.mono {α:Type} {k:Nat} {enc:α->List Value} {B B':Nat} {w:World} {v:Value} {xs:List α} (h:Zal k enc B w v xs) (hb:B<=B'):Zal k enc B' w v xs:=by
 obtain ⟨a,c,n,o,W,O⟩:=h
 exact ⟨a,c,n,o,W,O.imp id fun ⟨bl,off,e,hl,s⟩=>⟨bl,off,e,Nat.lt_of_lt_of_le hl hb,s⟩⟩
theorem Zal.up {α:Type} {k:Nat} {enc:α->List Value} {B:Nat} {w w':World} {v:Value} {xs:List α} (h:Zal k enc B w v xs) (hb:Below B w w') (hB:B<=w'.heap.size):Zal k enc w'.heap.size w' v xs:=(h.keep hb).mono hB
theorem Zb4 {α:Type} (k:Nat) (enc:α->List Value) (B:Nat) (w:World):Zal k enc B w (.slice none 0 0) []:=⟨none,0,rfl,Nat.le_refl _,by decide,.inl rfl⟩
theorem Zlk {k:Nat}:∀ (f:List (List Value)),(∀ c ∈ f,c.length=k)->f.flatten.length=f.length*k
 | [],_=>by simp
 | c::r,h=>by
  rw [List.flatten_cons,List.length_append,h c List.mem_cons_self,Zlk r (fun d V=>h d (List.mem_cons_of_mem _ V)),List.length_cons,Nat.add_mul,Nat.one_mul,Nat.add_comm]
theorem Zd6 {k:Nat}:∀ (f:List (List Value)) (i q:Nat) (cs:List Value),(∀ c ∈ f,c.length=k)->f[i]?=some cs->q<k->f.flatten[i*k+q]?=cs[q]?
 | [],i,q,cs,_,l,_=>by simp at l
 | c::r,0,q,cs,h,l,hq=>by
  simp only [List.getElem?_cons_zero,Option.some.injEq] at l
  subst l
  rw [List.flatten_cons,Nat.zero_mul,Nat.zero_add,List.getElem?_append_left (by rw [h c List.mem_cons_self];exact hq)]
 | c::r,i+1,q,cs,h,l,hq=>by
  simp only [List.getElem?_cons_succ] at l
  have s:=h c List.mem_cons_self
  rw [List.flatten_cons,List.getElem?_append_right (by rw [s,Nat.add_mul];omega),s,show (i+1)*k+q - k=i*k+q by rw [Nat.add_mul];omega]
  exact Zd6 r i q cs (fun d V=>h d (List.mem_cons_of_mem _ V)) l hq
def Jb {α:Type} (e k:Nat) (enc:α->List Value) (base:Nat) (w:World) (v:Value) (xs:List α):Prop:=w.ownsRow base e k v xs.length ((xs.map enc).flatten)
theorem Jb.srow {α:Type} {e k base:Nat} {enc:α->List Value} {w:World} {v:Value} {xs:List α} (hk:∀ x,(enc x).length=k) (h:Jb e k enc base w v xs):Zal k enc w.heap.size w v xs:=by
 obtain ⟨h0,⟨rfl,hn⟩ | ⟨g,cap,m,rfl,hg,hh,hn,s,hs,ht⟩⟩:=h
 ·have:xs=[]:=List.eq_nil_of_length_eq_zero hn
  subst this
  exact Zb4 _ _ _ _
 ·refine ⟨_,cap,rfl,hn,Nat.le_trans s (by decide),.inr ⟨g,0,rfl,(Array.getElem?_eq_some_iff.1 hh).1,fun i x M j u G=>?_⟩⟩
  have l:=(List.getElem?_eq_some_iff.1 M).1
  have hj:j<k:=by have:=(List.getElem?_eq_some_iff.1 G).1;rwa [hk] at this
  have e1:=Zd6 (xs.map enc) i j (enc x) (fun c s=>by obtain ⟨y,_,rfl⟩:=List.mem_map.1 s;exact hk y) (by rw [List.getElem?_map,M];rfl) hj
  have Y:i*k+j<xs.length*k:=Nat.lt_of_lt_of_le (Nat.add_lt_add_left hj _) (by rw [<- Nat.add_one_mul];exact Nat.mul_le_mul_right _ l)
  rw [<- ht,List.getElem?_take_of_lt Y,G,Array.getElem?_toList] at e1
  simp only [World.cell?,hh]
  simpa [Nat.zero_add] using e1
theorem Jo {α:Type} (e k:Nat) (enc:α->List Value) (base:Nat) (w:World):Jb e k enc base w (.slice none 0 0) []:=⟨by simp,.inl ⟨rfl,rfl⟩⟩
theorem Jb.keep {α:Type} {e k base:Nat} {enc:α->List Value} {w w':World} {v:Value} {xs:List α} (h:Jb e k enc base w v xs) (hb:∀ g,base<=g->g<w.heap.size->w'.heap[g]?=w.heap[g]?):Jb e k enc base w' v xs:=by
 obtain ⟨K,⟨F,C⟩ | ⟨g,cap,m,F,C,N,S⟩⟩:=h
 ·exact ⟨K,.inl ⟨F,C⟩⟩
 ·exact ⟨K,.inr ⟨g,cap,m,F,C,(hb g C (Array.getElem?_eq_some_iff.1 N).1).trans N,S⟩⟩
theorem Jb.below {α:Type} {e k base:Nat} {enc:α->List Value} {w w':World} {v:Value} {xs:List α} (h:Jb e k enc base w v xs) (hb:Below w.heap.size w w'):Jb e k enc base w' v xs:=h.keep fun g _ hg=>hb.block g hg
theorem Jb.slice {α:Type} {e k base:Nat} {enc:α->List Value} {w:World} {v:Value} {xs:List α} (h:Jb e k enc base w v xs):∃ a c,v=.slice a xs.length c:=by
 obtain ⟨_,⟨n,o⟩ | ⟨g,cap,m,n,_⟩⟩:=h
 ·rw [o];exact ⟨none,0,n⟩
 ·exact ⟨_,_,n⟩
theorem Jb.base {α:Type} {e k b b':Nat} {enc:α->List Value} {w:World} {v:Value} {xs:List α} (h:Jb e k enc b w v xs) (hb:b'<=b):Jb e k enc b' w v xs:=by
 obtain ⟨K,⟨F,C⟩ | ⟨g,cap,m,F,C,N,S⟩⟩:=h
 ·exact ⟨K,.inl ⟨F,C⟩⟩
 ·exact ⟨K,.inr ⟨g,cap,m,F,Nat.le_trans hb C,N,S⟩⟩
def Zge (t e k bytes:Nat) (z:Value):Prop:=Tryz.prog.underlying t=some (.slice e)/\∃ D,Tryz.prog.info? e=some D/\D.zero=some z/\D.size=k/\D.bytes=bytes/\z.cells.size=k/\0<k/\bytes<=4096
theorem Zhp {t e k bytes:Nat} {z:Value} (ht:Tryz.prog.underlying t=some (.slice e)) (h:(Tryz.prog.info? e).map (fun i=>(i.zero,i.size,i.bytes))=some (some z,k,bytes)) (T:z.cells.size=k) (hk:0<k) (hb:bytes<=4096):Zge t e k bytes z:=by
 obtain ⟨D,n,o⟩:=Option.map_eq_some_iff.1 h
 simp only [Prod.mk.injEq] at o
 exact ⟨ht,D,n,o.1,o.2.1,o.2.2,T,hk,hb⟩
theorem Jd {α:Type} {t e ty k bytes base:Nat} {z:Value} (hE:Zge t e k bytes z) {enc:α->List Value} (hk:∀ x,(enc x).length=k) (n:∀ x,∀ u ∈ enc x,u.oneCell'=true) {v:Value} {xs:List α} {x:α} {w:World} {bl off c:Nat} (A:Jb e k enc base w v xs) (H:∀ j u,(enc x)[j]?=some u->w.cell? ⟨bl,off+j,none⟩=some u) (hn:xs.length<1000000) (hb:base<=w.heap.size) :
  ∃ L w',(Builtin.append_ #[t,t] ty #[v,.slice (some ⟨bl,off,none⟩) 1 c]).run Tryz.prog w=.ok L w'/\Jb e k enc base w' L (xs++[x])/\Below base w w'/\(∀ g,some g≠v.ownBlock->g<w.heap.size->w'.heap[g]?=w.heap[g]?):=by
 obtain ⟨ht,D,l,T,E,Q,X,R,U⟩:=hE
 obtain ⟨L,w',q1,q2,q3,_⟩:=run_append_own (P:=Tryz.prog) (w:=w) base t ty e D z k bytes ht l T E Q X R v xs.length _ A ⟨bl,off,none⟩ 1 c (enc x) (by rw [hk,Nat.one_mul]) (fun j u G=>by
  have I:(⟨bl,off,none⟩:Addr).add j=⟨bl,off+j,none⟩:=by unfold Addr.add;split<;>simp_all
  rw [I];exact H j u G) (n x) (by unfold maxLen;omega) (Nat.le_trans (Nat.mul_le_mul (show xs.length+1<=1000000 by omega) U) (by decide)) hb
 refine ⟨L,w',q1,?_,(Below.refl base w).grown q3 hb fun q h=>(A.lt q h).1,fun g hg hl=>q3.block g hl hg⟩
 unfold Jb
 rw [List.length_append,List.map_append,List.flatten_append]
 simpa using q2
end Go.Proofs.YthfilnflgahcjaaGreatDoor

namespace Go.Proofs.YthfilnflgahcjaaGreatDoor
open Go.RowKit Go.Shelf Go.Maps
set_option linter.all false
structure Znc {α:Type} (kt:TypeId) (enc:α->Value) (ok:α->Prop):Prop where
 K:Keyed Tryz.prog kt
 key:∀ x,ok x->∃ l,keyOf Tryz.prog kt (enc x)=some l
 inj:∀ x y,enc x=enc y->x=y
def MG {α:Type} (enc:α->Value) (ok:α->Prop) (w:World) (b:Nat) (es:List (α × Value)):Prop:=∃ g a,w.heap[b]?=some (.map g a)/\g.toList.map (fun e=>(e.key,e.val))=es.map (fun p=>(enc p.1,p.2))/\(∀ p ∈ es,ok p.1)/\MapKept.Stamped g a
section
variable {α:Type} {kt:TypeId} {enc:α->Value} {ok:α->Prop}
theorem MG.block {w w':World} {b:Nat} {es:List (α × Value)} (h:MG enc ok w b es) (hb:w'.heap[b]?=w.heap[b]?):MG enc ok w' b es:=by
 obtain ⟨g,c,r,n⟩:=h
 exact ⟨g,c,hb.trans r,n⟩
theorem MG.lt {w:World} {b:Nat} {es:List (α × Value)} (h:MG enc ok w b es):b<w.heap.size:=by
 obtain ⟨g,c,r,_⟩:=h
 exact (Array.getElem?_eq_some_iff.1 r).1
theorem MG.below {B:Nat} {w w':World} {b:Nat} {es:List (α × Value)} (h:MG enc ok w b es) (hb:Below B w w') (hB:w.heap.size<=B):MG enc ok w' b es:=h.block (hb.block b (Nat.lt_of_lt_of_le h.lt hB))
theorem Zc9 (w:World):MG enc ok (w.alloc (.map #[] 0)) w.heap.size []:=⟨#[],0,World.alloc_heap_new _ _,rfl,by simp,MapKept.stamped_empty _⟩
theorem Zhv (T:Znc kt enc ok) {g:Array MapEntry} {es:List (α × Value)} (h:g.toList.map (fun e=>(e.key,e.val))=es.map (fun p=>(enc p.1,p.2))) (hs:∀ p ∈ es,ok p.1):∀ e ∈ g.toList,∃ l,Go.keyOf Tryz.prog kt e.key=some l:=by
 intro e he
 have:(e.key,e.val) ∈ es.map (fun p=>(enc p.1,p.2)):=by rw [<- h];exact List.mem_map.2 ⟨e,he,rfl⟩
 obtain ⟨p,hm,e1⟩:=List.mem_map.1 this
 have e2:enc p.1=e.key:=congrArg Prod.fst e1
 rw [<- e2];exact T.key _ (hs p hm)
theorem Zui {g:Array MapEntry} {es:List (α × Value)} (h:g.toList.map (fun e=>(e.key,e.val))=es.map (fun p=>(enc p.1,p.2))) {e:MapEntry} (he:e ∈ g.toList):∃ p ∈ es,e.key=enc p.1/\e.val=p.2:=by
 have:(e.key,e.val) ∈ es.map (fun p=>(enc p.1,p.2)):=by rw [<- h];exact List.mem_map.2 ⟨e,he,rfl⟩
 obtain ⟨p,hm,e1⟩:=List.mem_map.1 this
 exact ⟨p,hm,(congrArg Prod.fst e1).symm,(congrArg Prod.snd e1).symm⟩
theorem Zsx (T:Znc kt enc ok) {t e:TypeId} {z:Value} (ht:Tryz.prog.underlying t=some (.map kt e)) (hz:∀ w,(zeroValue e).run Tryz.prog w=.ok z w) {w:World} {b:Nat} {es:List (α × Value)} (h:MG enc ok w b es) (k:α) (hk:ok k) (hn:∀ p ∈ es,p.1≠k) :
  (Instr.lookup t (.map (some b)) (enc k) true).run Tryz.prog w=.ok (.tuple #[z,.bool false]) w/\(Instr.lookup t (.map (some b)) (enc k) false).run Tryz.prog w=.ok z w:=by
 obtain ⟨g,a,r,n,A,H⟩:=h
 have K:=T.K
 obtain ⟨R,d⟩:=T.key k hk
 rcases K.find w d g.toList (Zhv T n A) with ⟨u,o⟩ | ⟨j,F,u,o,f3⟩
 ·constructor<;>simp [Instr.lookup,run_underlying ht,MapKept.run_getObj_map r,K.check w _ d,u,hz,Result.andThen]
 ·exfalso
  obtain ⟨p,s,e1,_⟩:=Zui n (List.mem_of_getElem? o)
  rw [f3] at e1
  have:k=p.1:=T.inj _ _ e1
  exact hn p s this.symm
theorem Zuj (T:Znc kt enc ok) {t e:TypeId} {z:Value} (ht:Tryz.prog.underlying t=some (.map kt e)) {w:World} {b:Nat} {es:List (α × Value)} (h:MG enc ok w b es) (k:α) (v:Value) (hk:ok k) (hm:(k,v) ∈ es) (M:∀ p ∈ es,p.1=k->p.2=v) :
  (Instr.lookup t (.map (some b)) (enc k) true).run Tryz.prog w=.ok (.tuple #[v,.bool true]) w/\(Instr.lookup t (.map (some b)) (enc k) false).run Tryz.prog w=.ok v w:=by
 obtain ⟨g,a,r,n,A,H⟩:=h
 have K:=T.K
 obtain ⟨R,d⟩:=T.key k hk
 rcases K.find w d g.toList (Zhv T n A) with ⟨u,o⟩ | ⟨j,F,u,o,f3⟩
 ·exfalso
  have:(enc k,v) ∈ g.toList.map (fun e=>(e.key,e.val)):=by rw [n];exact List.mem_map.2 ⟨_,hm,rfl⟩
  obtain ⟨e,he,e1⟩:=List.mem_map.1 this
  exact o e he (congrArg Prod.fst e1)
 ·obtain ⟨p,s,e1,e2⟩:=Zui n (List.mem_of_getElem? o)
  rw [f3] at e1
  have O:k=p.1:=T.inj _ _ e1
  have N:p.1=k:=O.symm
  have e4:F.val=v:=e2.trans (M p s N)
  rw [e4] at u
  clear e4 e2 N O e1 M hm s
  constructor<;>simp [Instr.lookup,run_underlying ht,MapKept.run_getObj_map r,K.check w _ d,u,Result.andThen]
theorem Zy7 (T:Znc kt enc ok) {t e:TypeId} (ht:Tryz.prog.underlying t=some (.map kt e)) {w:World} {b:Nat} {es:List (α × Value)} (h:MG enc ok w b es) (k:α) (v:Value) (hk:ok k) (hn:∀ p ∈ es,p.1≠k) :
  ∃ w',(Instr.mapUpdate t (.map (some b)) (enc k) v).run Tryz.prog w=.ok () w'/\MG enc ok w' b (es++[(k,v)])/\w'.heap.size=w.heap.size/\(∀ i,i≠b->w'.heap[i]?=w.heap[i]?)/\Below b w w':=by
 obtain ⟨g,a,r,n,A,H⟩:=h
 have E:b<w.heap.size:=(Array.getElem?_eq_some_iff.1 r).1
 have K:=T.K
 obtain ⟨R,d⟩:=T.key k hk
 rcases K.find w d g.toList (Zhv T n A) with ⟨u,o⟩ | ⟨j,F,u,o,f3⟩
 ·refine ⟨{ w with heap:=w.heap.setIfInBounds b (.map (g.push ⟨enc k,v,a⟩) (a+1)) },?_,⟨g.push ⟨enc k,v,a⟩,a+1,?_,?_,?_,MapKept.stamped_push H o⟩,?_,?_,⟨rfl,rfl,rfl,?_,?_⟩⟩
  ·simp [Instr.mapUpdate,run_underlying ht,MapKept.run_getObj_map r,K.check w false d,u,MapKept.run_setObj_map _ r,Result.andThen]
  ·simp [E]
  ·simp [n]
  ·intro p s
   rcases List.mem_append.1 s with s | s
   ·exact A p s
   ·simp only [List.mem_cons,List.not_mem_nil,or_false] at s;rw [s];exact hk
  ·simp
  ·intro i Y
   simp [Array.getElem?_setIfInBounds_ne (Ne.symm Y)]
  ·simp
  ·intro i Y
   have:i≠b:=by omega
   simp [Array.getElem?_setIfInBounds_ne (Ne.symm this)]
 ·exfalso
  obtain ⟨p,s,e1,_⟩:=Zui n (List.mem_of_getElem? o)
  rw [f3] at e1
  have:k=p.1:=T.inj _ _ e1
  exact hn p s this.symm
theorem Zy8 (T:Znc kt enc ok) {t e:TypeId} (ht:Tryz.prog.underlying t=some (.map kt e)) {w:World} {b:Nat} {es:List (α × Value)} (h:MG enc ok w b es) (j:Nat) (k:α) (P v:Value) (hk:ok k) (S:es[j]?=some (k,P)) (M:∀ i p,es[i]?=some p->p.1=k->i=j) :
  ∃ w',(Instr.mapUpdate t (.map (some b)) (enc k) v).run Tryz.prog w=.ok () w'/\MG enc ok w' b (es.set j (k,v))/\w'.heap.size=w.heap.size/\(∀ i,i≠b->w'.heap[i]?=w.heap[i]?)/\Below b w w':=by
 obtain ⟨g,a,r,n,A,H⟩:=h
 have E:b<w.heap.size:=(Array.getElem?_eq_some_iff.1 r).1
 have K:=T.K
 obtain ⟨R,d⟩:=T.key k hk
 rcases K.find w d g.toList (Zhv T n A) with ⟨u,o⟩ | ⟨i,F,u,o,f3⟩
 ·exfalso
  have:(enc k,P) ∈ g.toList.map (fun e=>(e.key,e.val)):=by rw [n];exact List.mem_map.2 ⟨_,List.mem_of_getElem? S,rfl⟩
  obtain ⟨e,he,e1⟩:=List.mem_map.1 this
  exact o e he (congrArg Prod.fst e1)
 ·have D:(es.map (fun p=>(enc p.1,p.2)))[i]?=some (F.key,F.val):=by rw [<- n,List.getElem?_map,o];rfl
  rw [List.getElem?_map] at D
  obtain ⟨p,s,e1⟩:=Option.map_eq_some_iff.1 D
  have e2:enc p.1=enc k:=(congrArg Prod.fst e1).trans f3
  have N:p.1=k:=T.inj _ _ e2
  have I:=M i p s N
  subst I
  have U:i<g.size:=by
   have:=(List.getElem?_eq_some_iff.1 o).1
   simpa using this
  have W:=K.stays w d
  have L:g[i]?=some F:=by rw [<- Array.getElem?_toList];exact o
  have C:(Instr.mapUpdate t (.map (some b)) (enc k) v).run Tryz.prog w=.ok () { w with heap:=w.heap.setIfInBounds b (.map (g.modify i fun e=>{ e with key:=enc k,val:=v }) a) }:=by
   simp [Instr.mapUpdate,run_underlying ht,MapKept.run_getObj_map r,K.check w false d,u,L,f3,W,MapKept.run_setObj_map _ r,Result.andThen]
  refine ⟨_,C,⟨g.modify i fun e=>{ e with key:=enc k,val:=v },a,?_,?_,?_,MapKept.stamped_modify H i _ (fun _ _=>rfl) (fun e _ he=>by rw [L] at he;cases he;exact f3.symm)⟩,?_,?_,⟨rfl,rfl,rfl,?_,?_⟩⟩
  ·simp [E]
  ·refine List.ext_getElem? fun m=>?_
   have hm2:=congrArg (fun l=>l[m]?) n
   simp only [List.getElem?_map] at hm2
   simp only [List.getElem?_map,Array.getElem?_toList,Array.getElem?_modify,List.getElem?_set] at hm2 |-
   by_cases hmi:i=m
   ·subst hmi
    have V:=(List.getElem?_eq_some_iff.1 s).1
    simp [L,V]
   ·simp [hmi,hm2]
  ·intro X G
   rcases List.mem_or_eq_of_mem_set G with h | h
   ·exact A X h
   ·rw [h];exact hk
  ·simp
  ·intro q Q
   simp [Array.getElem?_setIfInBounds_ne (Ne.symm Q)]
  ·simp
  ·intro q Q
   have:q≠b:=by omega
   simp [Array.getElem?_setIfInBounds_ne (Ne.symm this)]
theorem Zg4 {β γ:Type} (f:β->γ):∀ (l:List β) (j:Nat),(l.eraseIdx j).map f=(l.map f).eraseIdx j
 | [],j=>by simp
 | x::l,0=>by simp
 | x::l,j+1=>by simp [Zg4 f l j]
theorem Jgk (T:Znc kt enc ok) {t e ty:TypeId} (ht:Tryz.prog.underlying t=some (.map kt e)) {w:World} {b:Nat} {es:List (α × Value)} (h:MG enc ok w b es) (j:Nat) (k:α) (P:Value) (hk:ok k) (S:es[j]?=some (k,P)) (M:∀ i p,es[i]?=some p->p.1=k->i=j) :
  ∃ w',(Builtin.delete_ #[t,kt] ty #[.map (some b),enc k]).run Tryz.prog w=.ok (.tuple #[]) w'/\MG enc ok w' b (es.eraseIdx j)/\w'.heap.size=w.heap.size/\(∀ i,i≠b->w'.heap[i]?=w.heap[i]?)/\Below b w w':=by
 obtain ⟨g,a,r,n,A,H⟩:=h
 have E:b<w.heap.size:=(Array.getElem?_eq_some_iff.1 r).1
 have K:=T.K
 obtain ⟨R,d⟩:=T.key k hk
 rcases K.find w d g.toList (Zhv T n A) with ⟨u,o⟩ | ⟨i,F,u,o,f3⟩
 ·exfalso
  have:(enc k,P) ∈ g.toList.map (fun e=>(e.key,e.val)):=by rw [n];exact List.mem_map.2 ⟨_,List.mem_of_getElem? S,rfl⟩
  obtain ⟨e,he,e1⟩:=List.mem_map.1 this
  exact o e he (congrArg Prod.fst e1)
 ·have D:(es.map (fun p=>(enc p.1,p.2)))[i]?=some (F.key,F.val):=by rw [<- n,List.getElem?_map,o];rfl
  rw [List.getElem?_map] at D
  obtain ⟨p,s,e1⟩:=Option.map_eq_some_iff.1 D
  have e2:enc p.1=enc k:=(congrArg Prod.fst e1).trans f3
  have N:p.1=k:=T.inj _ _ e2
  have I:=M i p s N
  subst I
  have U:i<g.size:=by
   have:=(List.getElem?_eq_some_iff.1 o).1
   simpa using this
  have C:(Builtin.delete_ #[t,kt] ty #[.map (some b),enc k]).run Tryz.prog w=.ok (.tuple #[]) { w with heap:=w.heap.setIfInBounds b (.map (g.eraseIdxIfInBounds i) a) }:=by
   simp [Builtin.delete_,run_underlying ht,MapKept.run_getObj_map r,K.check w _ d,u,MapKept.run_setObj_map _ r,Result.andThen]
  refine ⟨_,C,⟨g.eraseIdxIfInBounds i,a,?_,?_,?_,MapKept.stamped_erase H i⟩,?_,?_,⟨rfl,rfl,rfl,?_,?_⟩⟩
  ·simp [E]
  ·rw [Array.toList_eraseIdxIfInBounds,Zg4,n,Zg4]
  ·intro X G
   exact A X (List.mem_of_mem_eraseIdx G)
  ·simp
  ·intro q Q
   simp [Array.getElem?_setIfInBounds_ne (Ne.symm Q)]
  ·simp
  ·intro q Q
   have:q≠b:=by omega
   simp [Array.getElem?_setIfInBounds_ne (Ne.symm this)]
end
end Go.Proofs.YthfilnflgahcjaaGreatDoor

namespace Go.Proofs.YthfilnflgahcjaaGreatDoor
open Go.RowKit Go.Shelf Go.Maps
set_option linter.all false
section
variable {α:Type} {kt:TypeId} {enc:α->Value} {ok:α->Prop}
theorem Jbn {m:Array MapEntry} {es:List (α × Value)} (h:m.toList.map (fun e=>(e.key,e.val))=es.map (fun p=>(enc p.1,p.2))) {j:Nat} {k:α} {v:Value} (A:es[j]?=some (k,v)):∃ E,m.toList[j]?=some E/\E.key=enc k/\E.val=v:=by
 have:=congrArg (fun l=>l[j]?) h
 simp only [List.getElem?_map,A,Option.map_some] at this
 obtain ⟨E,o,u⟩:=Option.map_eq_some_iff.1 this
 exact ⟨E,o,congrArg Prod.fst u,congrArg Prod.snd u⟩
theorem Zjt (T:Znc kt enc ok) {t e:TypeId} (ht:Tryz.prog.underlying t=some (.map kt e)) {w:World} {b:Nat} {es:List (α × Value)} (h:MG enc ok w b es) (j:Nat) (k:α) (v:Value) (hk:ok k) (A:es[j]?=some (k,v)) :
  ∃ D:Nat,(∀ m c,w.heap[b]?=some (.map m c)->(m.toList[j]?).map (·.born)=some D)/\(Instr.mapEntry t (.map (some b)) (enc k)).run Tryz.prog w=.ok (.tuple #[v,.int .i64 D]) w/\∀ x,(Instr.entryStore t (.map (some b)) (.int .i64 D) x).run Tryz.prog w=(Instr.mapUpdate t (.map (some b)) (enc k) x).run Tryz.prog w:=by
 obtain ⟨m,f,o,u,h3,hS⟩:=h
 have K:=T.K
 obtain ⟨lk,g⟩:=T.key k hk
 obtain ⟨e1,Y,g2,g3⟩:=Jbn u A
 obtain ⟨s1,s2,s3⟩:=hS
 rcases K.find w g m.toList (Zhv T u h3) with ⟨N,C⟩ | ⟨i,E,N,C,f3⟩
 ·exact absurd g2 (C e1 (List.mem_of_getElem? Y))
 ·have a3:i=j:=by
   refine (List.getElem?_inj (l:=m.toList.map (·.key)) (by simpa using (List.getElem?_eq_some_iff.1 C).1) s3).1 ?_
   rw [List.getElem?_map,List.getElem?_map,C,Y,Option.map_some,Option.map_some,f3,g2]
  subst a3
  rw [C] at Y
  obtain rfl:=Option.some.inj Y
  have R:m[i]?=some E:=by rw [<- Array.getElem?_toList];exact C
  have H:m.modify i (fun e=>{ e with key:=enc k })=m:=by
   apply Array.ext'
   rw [Array.toList_modify,ChangeMaps.modify_eq_set _ _ _ _ C]
   have:({ E with key:=enc k }:MapEntry)=E:=by rw [<- f3]
   rw [this]
   exact WideElems.set_self _ _ _ C
  have hw:({ w with heap:=w.heap.setIfInBounds b (.map m f) }:World)=w:=by
   have:w.heap.setIfInBounds b (.map m f)=w.heap:=by
    apply Array.ext'
    rw [Array.toList_setIfInBounds]
    exact WideElems.set_self _ _ _ (by simpa using o)
   rw [this]
  refine ⟨E.born,fun a0 c' X=>by rw [o] at X;obtain ⟨rfl,rfl⟩:m=a0/\f=c':=by injection X with X;injection X with x y;exact ⟨x,y⟩
                                 rw [C];rfl,?_,fun x=>?_⟩
  ·simp [Instr.mapEntry,run_underlying ht,MapKept.run_getObj_map o,K.check w false g,N,R,f3,K.stays w g,H,MapKept.run_setObj_map _ o,Result.andThen,hw,goInt,g3]
  ·have O:m.findIdx? (fun e=>((e.born:Nat):Int)==((E.born:Nat):Int))=some i:=by
    rw [WideElems.findIdx_arr]
    exact WideElems.findIdx_born s2 C
   have Q:m.modify i (fun e=>{ e with val:=x })=m.modify i (fun e'=>{ e' with key:=enc k,val:=x }):=by
    apply Array.ext'
    rw [Array.toList_modify,Array.toList_modify,ChangeMaps.modify_eq_set _ _ _ _ C,ChangeMaps.modify_eq_set _ _ _ _ C,<- f3]
   simp [Instr.entryStore,Instr.mapUpdate,run_underlying ht,MapKept.run_getObj_map o,asInt,asIntOf,goInt,O,Q,K.check w false g,N,R,f3,K.stays w g,MapKept.run_setObj_map _ o,Result.andThen]
theorem Zoi (T:Znc kt enc ok) {t e:TypeId} {z:Value} (ht:Tryz.prog.underlying t=some (.map kt e)) (W:∀ w,(zeroValue e).run Tryz.prog w=.ok z w) {w:World} {b:Nat} {es:List (α × Value)} (h:MG enc ok w b es) (k:α) (hk:ok k) (hn:∀ p ∈ es,p.1≠k) :
  ∃ (D:Nat) (w1:World),(Instr.mapEntry t (.map (some b)) (enc k)).run Tryz.prog w=.ok (.tuple #[z,.int .i64 D]) w1/\MG enc ok w1 b (es++[(k,z)])/\w1.heap.size=w.heap.size/\(∀ i,i≠b->w1.heap[i]?=w.heap[i]?)/\Below b w w1/\∀ x,(Instr.entryStore t (.map (some b)) (.int .i64 D) x).run Tryz.prog w1=(Instr.mapUpdate t (.map (some b)) (enc k) x).run Tryz.prog w1:=by
 obtain ⟨w1,S,M,q3,q4,q5⟩:=Zy7 T ht h k z hk hn
 have P:=h
 obtain ⟨m,f,o,u,h3,hS⟩:=P
 have K:=T.K
 obtain ⟨lk,g⟩:=T.key k hk
 rcases K.find w g m.toList (Zhv T u h3) with ⟨N,C⟩ | ⟨j,E,N,C,f3⟩
 ·have e1:(Instr.mapUpdate t (.map (some b)) (enc k) z).run Tryz.prog w=.ok () { w with heap:=w.heap.setIfInBounds b (.map (m.push ⟨enc k,z,f⟩) (f+1)) }:=by
   simp [Instr.mapUpdate,run_underlying ht,MapKept.run_getObj_map o,K.check w false g,N,MapKept.run_setObj_map _ o,Result.andThen]
  rw [S] at e1
  have e2:w1={ w with heap:=w.heap.setIfInBounds b (.map (m.push ⟨enc k,z,f⟩) (f+1)) }:=by injection e1
  obtain ⟨D,p0,p1,p2⟩:=Zjt T ht M es.length k z hk (by simp)
  refine ⟨f,w1,?_,M,q3,q4,q5,?_⟩
  ·rw [e2]
   simp [Instr.mapEntry,run_underlying ht,MapKept.run_getObj_map o,K.check w false g,N,W,MapKept.run_setObj_map _ o,Result.andThen,goInt]
  ·have a1:w1.heap[b]?=some (.map (m.push ⟨enc k,z,f⟩) (f+1)):=by
    rw [e2]
    simp [(Array.getElem?_eq_some_iff.1 o).1]
   have V:es.length=m.size:=by have:=congrArg List.length u;simpa using this.symm
   have a4:D=f:=by
    have:=p0 _ _ a1
    rw [V] at this
    simpa using this.symm
   rw [<- a4]
   exact p2
 ·exfalso
  obtain ⟨p,B,e1,_⟩:=Zui u (List.mem_of_getElem? C)
  rw [f3] at e1
  exact hn p B (T.inj _ _ e1).symm
def MC (enc:α->Value) (ok:α->Prop) (w:World) (b:Nat) (cs:List (α × Int)):Prop:=MG enc ok w b (cs.map fun p=>(p.1,.int .i64 p.2))
variable [DecidableEq α]
def Zcn (k:α) (d:Int):List (α × Int)->List (α × Int)
 | []=>[(k,d)]
 | (a,n)::r=>if a=k then (a,n+d)::r else (a,n)::Zcn k d r
def Zn (k:α):List (α × Int)->Int
 | []=>0
 | (a,n)::r=>if a=k then n else Zn k r
theorem Zt0 {k:α} {d:Int}:∀ {cs:List (α × Int)},(∀ p ∈ cs,p.1≠k)->Zcn k d cs=cs++[(k,d)]/\Zn k cs=0
 | [],_=>⟨rfl,rfl⟩
 | (a,n)::r,h=>by
  have F:a≠k:=h (a,n) List.mem_cons_self
  obtain ⟨o,u⟩:=Zt0 (d:=d) (cs:=r) fun p B=>h p (List.mem_cons_of_mem _ B)
  rw [Zcn,Zn,if_neg F,if_neg F,o]
  exact ⟨rfl,u⟩
theorem Zt1 {k:α} {d:Int}:∀ {cs:List (α × Int)},¬ (∀ p ∈ cs,p.1≠k)->∃ j,cs[j]?=some (k,Zn k cs)/\Zcn k d cs=cs.set j (k,Zn k cs+d)
 | [],h=>absurd (fun p B=>by simp at B) h
 | (a,n)::r,h=>by
  by_cases F:a=k
  ·subst F
   exact ⟨0,by simp [Zn],by simp [Zcn,Zn]⟩
  ·obtain ⟨j,o,u⟩:=Zt1 (k:=k) (d:=d) (cs:=r) fun P=>h fun p B=>by
    rcases List.mem_cons.1 B with rfl | B
    ·exact F
    ·exact P p B
   exact ⟨j+1,by simpa [Zn,F] using o,by simp [Zcn,Zn,F,u]⟩
theorem Zij (k:α) (d:Int):∀ (cs:List (α × Int)) (x:α),x ∈ (Zcn k d cs).map Prod.fst↔x=k\/x ∈ cs.map Prod.fst
 | [],x=>by simp [Zcn]
 | (a,n)::r,x=>by
  rw [Zcn]
  split
  ·rename_i h;subst h;simp
  ·simp only [List.map_cons,List.mem_cons,Zij k d r x]
   constructor
   ·rintro (h | h | h)<;>simp [h]
   ·rintro (h | h | h)<;>simp [h]
theorem Zgv (k:α) (d:Int):∀ (cs:List (α × Int)),(cs.map Prod.fst).Nodup->((Zcn k d cs).map Prod.fst).Nodup
 | [],_=>by simp [Zcn]
 | (a,n)::r,h=>by
  simp only [List.map_cons,List.nodup_cons] at h
  rw [Zcn]
  split
  ·simpa using h
  ·rename_i F
   simp only [List.map_cons,List.nodup_cons,Zij]
   exact ⟨fun P=>P.elim F h.1,Zgv k d r h.2⟩
theorem Zgw (k:α) (d:Int) (x:α):∀ (cs:List (α × Int)),Zn x (Zcn k d cs)=Zn x cs+if x=k then d else 0
 | []=>by
  simp only [Zcn,Zn]
  by_cases h:k=x
  ·simp [h]
  ·simp [h,Ne.symm h]
 | (a,n)::r=>by
  rw [Zcn]
  by_cases h:a=k
  ·subst h
   simp only [if_true,Zn]
   by_cases u:a=x
   ·simp [u]
   ·simp [u,Ne.symm u]
  ·simp only [h,if_false,Zn]
   by_cases u:a=x
   ·subst u;simp [h]
   ·simp only [u,if_false];exact Zgw k d x r
theorem Zhn (T:Znc kt enc ok) {t:TypeId} (ht:Tryz.prog.underlying t=some (.map kt 2)) {w:World} {b:Nat} {cs:List (α × Int)} (h:MC enc ok w b cs) (nd:(cs.map Prod.fst).Nodup) (k:α) (hk:ok k) (d:Int) :
  ∃ (D:Nat) (w1 w2:World),(Instr.lookup t (.map (some b)) (enc k) false).run Tryz.prog w=.ok (.int .i64 (Zn k cs)) w/\(Instr.mapEntry t (.map (some b)) (enc k)).run Tryz.prog w=.ok (.tuple #[.int .i64 (Zn k cs),.int .i64 D]) w1/\(Instr.lookup t (.map (some b)) (enc k) false).run Tryz.prog w1=.ok (.int .i64 (Zn k cs)) w1/\(Instr.entryStore t (.map (some b)) (.int .i64 D) (.int .i64 (Zn k cs+d))).run Tryz.prog w1=.ok () w2/\MC enc ok w2 b (Zcn k d cs)/\w2.heap.size=w.heap.size/\(∀ i,i≠b->w2.heap[i]?=w.heap[i]?)/\Below b w w2:=by
 have W:∀ w,(zeroValue 2).run Tryz.prog w=.ok (.int .i64 0) w:=Tryz.zeroValue2
 have s:∀ {l:List (α × Value)},(l.map Prod.fst).Nodup->∀ {j:Nat} {v:Value},l[j]?=some (k,v)->(∀ i p,l[i]?=some p->p.1=k->i=j)/\(∀ p ∈ l,p.1=k->p.2=v):=by
  intro l hl j v A
  have o:∀ i p,l[i]?=some p->p.1=k->i=j:=fun i p G B=>by
   refine (List.getElem?_inj (l:=l.map Prod.fst) (by simpa using (List.getElem?_eq_some_iff.1 G).1) hl).1 ?_
   rw [List.getElem?_map,List.getElem?_map,G,A,Option.map_some,Option.map_some,B]
  refine ⟨o,fun p B a5=>?_⟩
  obtain ⟨i,G⟩:=List.getElem?_of_mem B
  have:=o i p G a5
  subst this
  rw [G] at A
  obtain rfl:=Option.some.inj A
  rfl
 by_cases hn:∀ p ∈ cs,p.1≠k
 ·obtain ⟨e1,e2⟩:=Zt0 (d:=d) hn
  have U:∀ p ∈ cs.map (fun p=>(p.1,Value.int .i64 p.2)),p.1≠k:=fun p B=>by
   obtain ⟨q,hq,rfl⟩:=List.mem_map.1 B
   exact hn q hq
  obtain ⟨D,w1,S,M,q3,q4,q5,q6⟩:=Zoi T ht W h k hk U
  have a2:((cs.map (fun p=>(p.1,Value.int .i64 p.2))++[(k,Value.int .i64 0)]).map Prod.fst).Nodup:=by
   rw [List.map_append,List.map_map]
   refine List.nodup_append.2 ⟨by simpa [Function.comp_def] using nd,by simp,fun a ha c hc=>?_⟩
   simp only [List.map_cons,List.map_nil,List.mem_singleton] at hc
   subst hc
   obtain ⟨q,hq,rfl⟩:=List.mem_map.1 ha
   exact hn q hq
  have A:(cs.map (fun p=>(p.1,Value.int .i64 p.2))++[(k,Value.int .i64 0)])[cs.length]?=some (k,.int .i64 0):=by
   rw [List.getElem?_append_right (by simp)];simp
  obtain ⟨I,L⟩:=s a2 A
  obtain ⟨w2,r1,r2,r3,r4,r5⟩:=Zy8 T ht M cs.length k (.int .i64 0) (.int .i64 (0+d)) hk A I
  refine ⟨D,w1,w2,?_,?_,?_,?_,?_,r3.trans q3,fun i G=>(r4 i G).trans (q4 i G),q5.trans r5⟩
  ·rw [e2];exact (Zsx T ht W h k hk U).2
  ·rw [e2];exact S
  ·rw [e2];exact (Zuj (z:=.int .i64 0) T ht M k (.int .i64 0) hk (List.mem_of_getElem? A) L).2
  ·rw [q6,e2];exact r1
  ·rw [e1]
   unfold MC
   have:(cs.map (fun p=>(p.1,Value.int .i64 p.2))++[(k,Value.int .i64 0)]).set cs.length (k,.int .i64 (0+d))=(cs++[(k,d)]).map fun p=>(p.1,.int .i64 p.2):=by
    rw [List.set_append_right _ _ (by simp)]
    simp
   rw [<- this];exact r2
 ·obtain ⟨j,e1,e2⟩:=Zt1 (d:=d) hn
  have A:(cs.map (fun p=>(p.1,Value.int .i64 p.2)))[j]?=some (k,.int .i64 (Zn k cs)):=by rw [List.getElem?_map,e1];rfl
  obtain ⟨I,L⟩:=s (l:=cs.map (fun p=>(p.1,Value.int .i64 p.2))) (by rw [List.map_map];simpa [Function.comp_def] using nd) A
  obtain ⟨D,_,S,M⟩:=Zjt T ht h j k _ hk A
  obtain ⟨w2,r1,r2,r3,r4,r5⟩:=Zy8 T ht h j k _ (.int .i64 (Zn k cs+d)) hk A I
  have hl:=(Zuj (z:=.int .i64 0) T ht h k _ hk (List.mem_of_getElem? A) L).2
  refine ⟨D,w,w2,hl,S,hl,(M _).trans r1,?_,r3,r4,r5⟩
  unfold MC
  rw [e2,List.map_set]
  exact r2
end
end Go.Proofs.YthfilnflgahcjaaGreatDoor

