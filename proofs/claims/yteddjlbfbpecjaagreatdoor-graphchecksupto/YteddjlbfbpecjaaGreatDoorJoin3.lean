/- Small things of worlds and cells. Values as trees, and how a tree lies in memory. The document's Size: it answers four numbers, whatever the value. How great a step is: it is asked, and answered. -/
import Derived.Test.YteddjlbfbpecjaaGreatDoorJoin2
import Derived.Test.YteddjlbfbpecjaaGreatDoorJoin1
import Derived.Below
import Derived.BigQuiet
import Derived.RangeFuncRecord
import Derived.Deep.RegionWith
import Derived.Deep.Cut
namespace Go.Proofs.YteddjlbfbpecjaaGreatDoor
open Go.RowKit Go.Shelf
set_option linter.unusedVariables false
theorem hidE {p:Prop} (h:p):Hid p:=h
theorem lt_of_cell {w:World} {p:Addr} {v:Value} (h:w.cell? p=some v):p.block<w.heap.size:=by
 obtain ⟨o,ho,_⟩:=cells_of_cell h
 exact (Array.getElem?_eq_some_iff.1 ho).1
theorem cell_below {B:Nat} {w w':World} (h:Below B w w') (hB:w.heap.size≤B) {p:Addr} {v:Value} (hc:w.cell? p=some v):w'.cell? p=some v :=
 (h.cell (p:=p) (Nat.lt_of_lt_of_le (lt_of_cell hc) hB)).trans hc
theorem cell_new (W:World) (cs:Array Value) (ty:TypeId) (i:Nat) (v:Value) (h:cs[i]?=some v):(W.alloc (.cells cs ty)).cell? ⟨W.heap.size,i,none⟩=some v:=by
 have e:=World.alloc_heap_new W (.cells cs ty)
 unfold World.cell?
 simp only [e,h]
 rfl
theorem ne_bool {a b:Int} (h:a≠b):(a==b)=false:=beq_eq_false_iff_ne.2 h
theorem eq_bool {a b:Int} (h:a=b):(a==b)=true:=beq_iff_eq.2 h
end Go.Proofs.YteddjlbfbpecjaaGreatDoor

namespace Go.Proofs.YteddjlbfbpecjaaGreatDoor
open Go.RowKit
set_option linter.unusedVariables false
inductive Tree  where
 | mk (k:Int) (b:Bool) (n:Int) (s:ByteArray) (ks:List ByteArray) (ts:List Tree)
theorem Tree.ind {p:Tree→Prop} (h:∀ k b n s ks ts,(∀ t ∈ ts,p t)→p (.mk k b n s ks ts)):∀ T,p T
 | .mk k b n s ks ts=>h k b n s ks ts fun t ht=>Tree.ind h t
termination_by T=>SizeOf.sizeOf T
decreasing_by
 have:=List.sizeOf_lt_of_mem ht
 simp
 omega
def Tree.kind  : Tree→Int | .mk k _ _ _ _ _=>k
def Tree.text  : Tree→ByteArray | .mk _ _ _ s _ _=>s
def Tree.keys  : Tree→List ByteArray | .mk _ _ _ _ ks _=>ks
def Tree.kids  : Tree→List Tree | .mk _ _ _ _ _ ts=>ts
def KeysLie (B:Nat) (w:World) (ad:Option Addr) (ks:List ByteArray):Prop :=
 ks=[]∨∃ b off,ad=some ⟨b,off,none⟩∧b<B∧∀ i,i<ks.length→w.cell? ⟨b,off+i,none⟩=some (.string (ks.getD i ⟨#[]⟩))∧(ks.getD i ⟨#[]⟩).size≤maxLen
mutual
def Lies (B:Nat) (w:World):Value→Tree→Prop
 | v,.mk k b n s ks ts=>∃ ka kc la lc,v=.agg #[.int .i64 k,.bool b,.int .i64 n,.string s,.slice ka ks.length kc,.slice la ts.length lc] ∧
   (s.size≤maxLen∧ks.length≤kc∧kc≤maxLen∧ts.length≤lc∧lc≤maxLen)∧KeysLie B w ka ks∧(ts=[]∨∃ bl off,la=some ⟨bl,off,none⟩∧bl<B∧KidsLie B w bl off ts)
def KidsLie (B:Nat) (w:World) (bl:Nat):Nat→List Tree→Prop
 | _,[]=>True
 | off,t::ts=>(∃ v0 v1 v2 v3 v4 v5,(w.cell? ⟨bl,off,none⟩=some v0∧w.cell? ⟨bl,off+1,none⟩=some v1∧w.cell? ⟨bl,off+2,none⟩=some v2∧w.cell? ⟨bl,off+3,none⟩=some v3 ∧
   w.cell? ⟨bl,off+4,none⟩=some v4∧w.cell? ⟨bl,off+5,none⟩=some v5)∧Lies B w (.agg #[v0,v1,v2,v3,v4,v5]) t)∧KidsLie B w bl (off+6) ts
end
mutual
theorem Lies.below {B:Nat} {w w':World} (h:Below B w w'):∀ {v:Value} {T:Tree},Lies B w v T→Lies B w' v T
 | v,.mk k b n s ks ts,hl=>by
  simp only [Lies] at hl ⊢
  obtain ⟨ka,kc,la,lc,hv,hb,hk,ht⟩:=hl
  refine ⟨ka,kc,la,lc,hv,hb,?_,?_⟩
  ·rcases hk with hk | ⟨bk,off,e,hlt,hc⟩
   ·exact .inl hk
   ·exact .inr ⟨bk,off,e,hlt,fun i hi=>⟨(h.cell (p:=⟨bk,off+i,none⟩) hlt).trans (hc i hi).1,(hc i hi).2⟩⟩
  ·rcases ht with ht | ⟨bl,off,e,hlt,hc⟩
   ·exact .inl ht
   ·exact .inr ⟨bl,off,e,hlt,KidsLie.below h hlt hc⟩
theorem KidsLie.below {B:Nat} {w w':World} (h:Below B w w') {bl:Nat} (hlt:bl<B):∀ {off:Nat} {ts:List Tree},KidsLie B w bl off ts→KidsLie B w' bl off ts
 | off,[],hl=>by simp only [KidsLie]
 | off,t::ts,hl=>by
  simp only [KidsLie] at hl ⊢
  obtain ⟨⟨v0,v1,v2,v3,v4,v5,⟨c0,c1,c2,c3,c4,c5⟩,hv⟩,hr⟩:=hl
  exact ⟨⟨v0,v1,v2,v3,v4,v5,⟨(h.cell (p:=⟨bl,off,none⟩) hlt).trans c0,(h.cell (p:=⟨bl,off+1,none⟩) hlt).trans c1,(h.cell (p:=⟨bl,off+2,none⟩) hlt).trans c2,(h.cell (p:=⟨bl,off+3,none⟩) hlt).trans c3,
   (h.cell (p:=⟨bl,off+4,none⟩) hlt).trans c4,(h.cell (p:=⟨bl,off+5,none⟩) hlt).trans c5⟩,Lies.below h hv⟩,KidsLie.below h hlt hr⟩
end
mutual
theorem Lies.mono {B B':Nat} {w:World} (h:B≤B'):∀ {v:Value} {T:Tree},Lies B w v T→Lies B' w v T
 | v,.mk k b n s ks ts,hl=>by
  simp only [Lies] at hl ⊢
  obtain ⟨ka,kc,la,lc,hv,hb,hk,ht⟩:=hl
  refine ⟨ka,kc,la,lc,hv,hb,?_,?_⟩
  ·rcases hk with hk | ⟨bk,off,e,hlt,hc⟩
   ·exact .inl hk
   ·exact .inr ⟨bk,off,e,Nat.lt_of_lt_of_le hlt h,hc⟩
  ·rcases ht with ht | ⟨bl,off,e,hlt,hc⟩
   ·exact .inl ht
   ·exact .inr ⟨bl,off,e,Nat.lt_of_lt_of_le hlt h,KidsLie.mono h hc⟩
theorem KidsLie.mono {B B':Nat} {w:World} (h:B≤B') {bl:Nat}:∀ {off:Nat} {ts:List Tree},KidsLie B w bl off ts→KidsLie B' w bl off ts
 | off,[],hl=>by simp only [KidsLie]
 | off,t::ts,hl=>by
  simp only [KidsLie] at hl ⊢
  obtain ⟨⟨v0,v1,v2,v3,v4,v5,hc,hv⟩,hr⟩:=hl
  exact ⟨⟨v0,v1,v2,v3,v4,v5,hc,Lies.mono h hv⟩,KidsLie.mono h hr⟩
end
theorem KidsLie.at {B:Nat} {w:World} {bl:Nat}:∀ {ts:List Tree} {off:Nat},KidsLie B w bl off ts→∀ {i:Nat} {t:Tree},ts[i]?=some t →
  ∃ v0 v1 v2 v3 v4 v5,(w.cell? ⟨bl,off+i*6,none⟩=some v0∧w.cell? ⟨bl,off+i*6+1,none⟩=some v1∧w.cell? ⟨bl,off+i*6+2,none⟩=some v2∧w.cell? ⟨bl,off+i*6+3,none⟩=some v3 ∧
   w.cell? ⟨bl,off+i*6+4,none⟩=some v4∧w.cell? ⟨bl,off+i*6+5,none⟩=some v5)∧Lies B w (.agg #[v0,v1,v2,v3,v4,v5]) t
 | [],off,_,i,t,h=>by simp at h
 | t::ts,off,hl,0,u,h=>by
  simp only [KidsLie] at hl
  simp at h;subst h
  simpa using hl.1
 | t::ts,off,hl,i+1,u,h=>by
  simp only [KidsLie] at hl
  have:=KidsLie.at hl.2 (i:=i) (t:=u) (by simpa using h)
  rw [show off+6+i*6=off+(i+1)*6 from by omega] at this
  exact this
theorem KidsLie.cells {B:Nat} {w:World} {bl:Nat} {ts:List Tree} {off:Nat} (h:KidsLie B w bl off ts) {i:Nat} {k:Int} {b:Bool} {n:Int} {s:ByteArray} {ks:List ByteArray} {us:List Tree} (ht:ts[i]?=some (.mk k b n s ks us)) :
  ∃ ka kc la lc,(w.cell? ⟨bl,off+i*6,none⟩=some (.int .i64 k)∧w.cell? ⟨bl,off+i*6+1,none⟩=some (.bool b)∧w.cell? ⟨bl,off+i*6+2,none⟩=some (.int .i64 n)∧w.cell? ⟨bl,off+i*6+3,none⟩=some (.string s) ∧
   w.cell? ⟨bl,off+i*6+4,none⟩=some (.slice ka ks.length kc)∧w.cell? ⟨bl,off+i*6+5,none⟩=some (.slice la us.length lc)) ∧
   Lies B w (.agg #[.int .i64 k,.bool b,.int .i64 n,.string s,.slice ka ks.length kc,.slice la us.length lc]) (.mk k b n s ks us):=by
 obtain ⟨v0,v1,v2,v3,v4,v5,⟨c0,c1,c2,c3,c4,c5⟩,hl⟩:=h.at ht
 have hl':=hl
 simp only [Lies] at hl
 obtain ⟨ka,kc,la,lc,e,_⟩:=hl
 simp only [Value.agg.injEq,Array.mk.injEq,List.cons.injEq,and_true] at e
 obtain ⟨rfl,rfl,rfl,rfl,rfl,rfl⟩:=e
 exact ⟨ka,kc,la,lc,⟨c0,c1,c2,c3,c4,c5⟩,hl'⟩
mutual
def Tree.pre (d:Int):Tree→List (Int × Tree)
 | .mk k b n s ks ts=>(d,.mk k b n s ks ts)::Tree.preL (d+1) ts
def Tree.preL (d:Int):List Tree→List (Int × Tree)
 | []=>[]
 | t::ts=>t.pre d++Tree.preL d ts
end
mutual
def Tree.height  : Tree→Nat
 | .mk _ _ _ _ _ ts=>Tree.heightL ts+1
def Tree.heightL  : List Tree→Nat
 | []=>0
 | t::ts=>max t.height (Tree.heightL ts)
end
theorem Tree.height_mem  : ∀ {ts:List Tree} {t:Tree},t ∈ ts→t.height≤Tree.heightL ts
 | [],_,h=>by simp at h
 | u::us,t,h=>by
  simp only [Tree.heightL]
  rcases List.mem_cons.1 h with rfl | h
  ·omega
  ·have:=Tree.height_mem h;omega
theorem Tree.preL_append (d:Int):∀ a b:List Tree,Tree.preL d (a++b)=Tree.preL d a++Tree.preL d b
 | [],b=>by simp [Tree.preL]
 | t::a,b=>by simp [Tree.preL,Tree.preL_append d a b]
theorem Tree.preL_take (d:Int) (ts:List Tree) (i:Nat) (t:Tree) (h:ts[i]?=some t):Tree.preL d (ts.take (i+1))=Tree.preL d (ts.take i)++t.pre d:=by
 rw [List.take_add_one,h,Tree.preL_append]
 simp [Tree.preL]
end Go.Proofs.YteddjlbfbpecjaaGreatDoor

namespace Go.Proofs.YteddjlbfbpecjaaGreatDoor
open Go.RowKit Go.Shelf
set_option linter.unusedVariables false
set_option linter.unusedSimpArgs false
attribute [local go_sem] Oper.semAt_some
theorem results_tmp4 {fn:Func} {t u v x:Tmp} (h:fn.results=#[.tmp t,.tmp u,.tmp v,.tmp x]) (tmps:Array Value) (P:Program) (w:World) :
  (results fn tmps).run P w=.ok (.tuple #[tmps.getD t undef,tmps.getD u undef,tmps.getD v undef,tmps.getD x undef]) w:=by
 simp [results,h]
end Go.Proofs.YteddjlbfbpecjaaGreatDoor

namespace Go.Proofs.YteddjlbfbpecjaaGreatDoor
open Go.RowKit Go.Shelf
set_option linter.unusedVariables false
set_option linter.unusedSimpArgs false
attribute [local go_sem] Oper.semAt_some
def PropAt (B:Nat) (w:World) (bl off:Nat) (q:ByteArray × Tree):Prop :=
 w.cell? ⟨bl,off,none⟩=some (.string q.1)∧q.1.size≤maxLen∧∃ v0 v1 v2 v3 v4 v5,(w.cell? ⟨bl,off+1,none⟩=some v0∧w.cell? ⟨bl,off+2,none⟩=some v1∧w.cell? ⟨bl,off+3,none⟩=some v2∧w.cell? ⟨bl,off+4,none⟩=some v3∧w.cell? ⟨bl,off+5,none⟩=some v4∧w.cell? ⟨bl,off+6,none⟩=some v5)∧Lies B w (.agg #[v0,v1,v2,v3,v4,v5]) q.2
def PropsLie (B:Nat) (w:World) (v:Value) (ps:List (ByteArray × Tree)):Prop :=
 ∃ pa pc,v=.slice pa ps.length pc∧ps.length≤pc∧pc≤9223372036854775807∧(ps=[]∨∃ bl off,pa=some ⟨bl,off,none⟩∧bl<B∧∀ i q,ps[i]?=some q→PropAt B w bl (off+i*7) q)
theorem PropAt.below {B:Nat} {w w':World} (h:Below B w w') {bl off:Nat} (hl:bl<B) {q:ByteArray × Tree} (hq:PropAt B w bl off q):PropAt B w' bl off q:=by
 obtain ⟨h0,h1,v0,v1,v2,v3,v4,v5,⟨c0,c1,c2,c3,c4,c5⟩,hv⟩:=hq
 exact ⟨(h.cell (p:=⟨bl,off,none⟩) hl).trans h0,h1,v0,v1,v2,v3,v4,v5,⟨(h.cell (p:=⟨bl,off+1,none⟩) hl).trans c0,(h.cell (p:=⟨bl,off+2,none⟩) hl).trans c1,(h.cell (p:=⟨bl,off+3,none⟩) hl).trans c2,(h.cell (p:=⟨bl,off+4,none⟩) hl).trans c3,(h.cell (p:=⟨bl,off+5,none⟩) hl).trans c4,(h.cell (p:=⟨bl,off+6,none⟩) hl).trans c5⟩,hv.below h⟩
theorem PropsLie.below {B:Nat} {w w':World} (h:Below B w w') {v:Value} {ps:List (ByteArray × Tree)} (hp:PropsLie B w v ps):PropsLie B w' v ps:=by
 obtain ⟨pa,pc,e,h1,h2,h3⟩:=hp
 exact ⟨pa,pc,e,h1,h2,h3.imp id fun ⟨bl,off,e,hl,hc⟩=>⟨bl,off,e,hl,fun i q hi=>(hc i q hi).below h hl⟩⟩
end Go.Proofs.YteddjlbfbpecjaaGreatDoor

