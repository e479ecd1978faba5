/- A row that is filled thing by thing, some cells each. -/
import Derived.Test.YteddjlbfbpecjaaGreatDoorFcopy
import Derived.Test.YteddjlbfbpecjaaGreatDoorJoin14
import Derived.Test.YteddjlbfbpecjaaGreatDoorJoin11
import Derived.Test.YteddjlbfbpecjaaGreatDoorJoin16
import Derived.Test.YteddjlbfbpecjaaGreatDoorJoin2
import Derived.Test.YteddjlbfbpecjaaGreatDoorJoin1
import Derived.Test.YteddjlbfbpecjaaGreatDoorJoin4
namespace Go.Proofs.YteddjlbfbpecjaaGreatDoor
section
open Go.RowKit Go.Shelf
set_option linter.all false
def Zcx (k:Nat) (w:World) (g n:Nat):Prop:=∀ o,o<n*k→(w.cell? ⟨g,o,none⟩).isSome=true∧w.frozen? ⟨g,o,none⟩=false
theorem Zcx.below {k:Nat} {w w':World} {g n:Nat} (h:Zcx k w g n) (hb:Below w.heap.size w w') (hg:g<w.heap.size):Zcx k w' g n:=fun o ho=>by
 rw [hb.cell (p:=⟨g,o,none⟩) hg,hb.frozen (p:=⟨g,o,none⟩) hg];exact h o ho
theorem Zd2 (b:Nat) (a:Addr):∀ (vs:List Value) (o:Nat) (w:World),(w.setCells b o vs).frozen? a=w.frozen? a
 | [],o,w=>rfl
 | v::r,o,w=>by rw [World.setCells,Zd2 b a r,World.frozen?_setCell]
theorem Zbz (b:Nat):∀ (vs:List Value) (o:Nat) (w:World),(w.setCells b o vs).heap.size=w.heap.size
 | [],o,w=>rfl
 | v::r,o,w=>by rw [World.setCells,Zbz b r];simp
theorem Zdp {B b:Nat} {w:World} (hb:B≤b):∀ (vs:List Value) (o:Nat) (w1:World),Below B w w1→Below B w (w1.setCells b o vs)
 | [],o,w1,h=>h
 | v::r,o,w1,h=>by rw [World.setCells];exact Zdp hb r _ _ (h.setCell (p:=⟨b,o,none⟩) hb v)
theorem Zhu {b o b' o':Nat} {vs:List Value} {w:World} (h:b'=b→o'<o∨o+vs.length≤o'):(w.setCells b o vs).cell? ⟨b',o',none⟩=w.cell? ⟨b',o',none⟩ :=
 World.cell?_setCells_out b _ o w ⟨b',o',none⟩ (fun h1 _=>h h1)
theorem Zot {b o:Nat} {vs:List Value} {w:World} (h:∀ j,j<vs.length→(w.cell? ⟨b,o+j,none⟩).isSome=true) {q:Nat} {v:Value} (hq:vs[q]?=some v):(w.setCells b o vs).cell? ⟨b,o+q,none⟩=some v:=by
 obtain ⟨hl,rfl⟩:=List.getElem?_eq_some_iff.1 hq
 exact World.cell?_setCells_in b vs o w h q hl
theorem Zcx.puts {k:Nat} {w:World} {g n o:Nat} (h:Zcx k w g n) (vs:List Value) (ho:o+vs.length≤n*k):Zcx k (w.setCells g o vs) g n:=fun p hp=>by
 rw [Zd2]
 refine ⟨?_,(h p hp).2⟩
 by_cases hin:p<o∨o+vs.length≤p
 ·rw [Zhu (fun _=>hin)];exact (h p hp).1
 ·obtain ⟨q,rfl⟩:∃ q,p=o+q:=⟨p - o,by omega⟩
  rw [Zot (fun j hj=>(h (o+j) (by omega)).1) (List.getElem?_eq_getElem (by omega))];rfl
structure Jba {α:Type} (lo:Nat) (Is:Nat→World→List Value→α→Prop):Prop where
 keep:∀ {B:Nat} {w w':World} {cs:List Value} {x:α},Zcc lo B w w'→Is B w cs x→Is B w' cs x
 mono:∀ {B B':Nat} {w:World} {cs:List Value} {x:α},B≤B'→Is B w cs x→Is B' w cs x
def Zbh {α:Type} (k g:Nat) (Is:Nat→World→List Value→α→Prop) (B:Nat) (w:World) (xs:List α):Prop :=
 ∀ i x,xs[i]?=some x→∃ cs,cs.length=k∧(∀ q v,cs[q]?=some v→w.cell? ⟨g,i*k+q,none⟩=some v)∧Is B w cs x
theorem Ze5 {α:Type} {k g:Nat} {Is:Nat→World→List Value→α→Prop} {B:Nat} {w:World}:Zbh k g Is B w []:=fun i x h=>by simp at h
theorem Zbh.keep {α:Type} {k g lo:Nat} {Is:Nat→World→List Value→α→Prop} (hK:Jba (g+1) Is) {B:Nat} {w w':World} {xs:List α} (h:Zbh k g Is B w xs) (hk:Zcc lo B w w') (hlo:lo≤g) (hg:g<B):Zbh k g Is B w' xs:=fun i x hx=>by
 obtain ⟨cs,hl,hc,hi⟩:=h i x hx
 exact ⟨cs,hl,fun q v hq=>(hk g _ hlo hg).1.trans (hc q v hq),hK.keep (fun b o h1 h2=>hk b o (by omega) h2) hi⟩
theorem Zbh.mono {α:Type} {k g:Nat} {Is:Nat→World→List Value→α→Prop} (hK:Jba (g+1) Is) {B B':Nat} {w:World} {xs:List α} (h:Zbh k g Is B w xs) (hB:B≤B'):Zbh k g Is B' w xs:=fun i x hx=>by
 obtain ⟨cs,hl,hc,hi⟩:=h i x hx
 exact ⟨cs,hl,hc,hK.mono hB hi⟩
theorem Zcx.keep {k g n lo B:Nat} {w w':World} (h:Zcx k w g n) (hk:Zcc lo B w w') (hlo:lo≤g) (hg:g<B):Zcx k w' g n:=fun o ho=>by
 rw [(hk g o hlo hg).1,(hk g o hlo hg).2];exact h o ho
theorem Ze6 {α:Type} {k g j n:Nat} {Is:Nat→World→List Value→α→Prop} (hK:Jba (g+1) Is) {xs:List α} {t:α} {wr w2:World} (hx:xs[j]?=some t) (hg:g<wr.heap.size) (hb:Below wr.heap.size wr w2) (hf:Zbh k g Is wr.heap.size wr (xs.take j)) {cs:List Value} (hl:cs.length=k)
  (hv:Is w2.heap.size w2 cs t) (hr:Zcx k w2 g n) (hj:j<n):Zbh k g Is w2.heap.size (w2.setCells g (j*k) cs) (xs.take (j+1)):=by
 have hjl:j<xs.length:=(List.getElem?_eq_some_iff.1 hx).1
 have hkp:∀ B,Zcc (g+1) B w2 (w2.setCells g (j*k) cs):=fun B b o h1 _=>⟨Zhu (fun e=>by omega),Zd2 _ _ _ _ _⟩
 have hjk:j*k+k≤n*k:=by
  have:=Nat.mul_le_mul_right k (show j+1≤n by omega)
  rw [Nat.add_mul] at this;omega
 intro i u hu
 rw [List.take_add_one,hx] at hu
 by_cases hij:i=j
 ·subst hij
  have:u=t:=by
   rw [List.getElem?_append_right (by simp;omega)] at hu
   simp [show min i xs.length=i by omega] at hu
   exact hu.symm
  subst this
  exact ⟨cs,hl,fun q v hq=>Zot (fun p hp=>(hr _ (by omega)).1) hq,hK.keep (hkp _) hv⟩
 ·have hil:i<j:=by
   have h:=(List.getElem?_eq_some_iff.1 hu).1
   simp at h;omega
  rw [List.getElem?_append_left (by simp;omega)] at hu
  obtain ⟨ds,hd,hc,hi⟩:=hf i u hu
  refine ⟨ds,hd,fun q v hq=>?_,hK.keep (hkp _) (hK.mono hb.size (hK.keep (Zc5 hb (Nat.le_refl _)) hi))⟩
  have hq2:=(List.getElem?_eq_some_iff.1 hq).1
  have hik:i*k+k≤j*k:=by
   have:=Nat.mul_le_mul_right k (show i+1≤j by omega)
   rw [Nat.add_mul] at this;omega
  rw [Zhu (fun _=>.inl (by omega)),hb.cell (p:=⟨g,i*k+q,none⟩) hg]
  exact hc q v hq
end
section
open Go.RowKit Go.Shelf
set_option linter.all false
structure Zp  where
 id:Int
 labels:List ByteArray
 props:List (ByteArray × Zk)
structure Jj  where
 id:Int
 fr:Int
 tt:Int
 type:ByteArray
 props:List (ByteArray × Zk)
structure Zy  where
 nodes:List Zp
 rels:List Jj
 nn:Int
 nr:Int
def Zia {α:Type} (k:Nat) (At:World→Nat→Nat→α→Prop) (B:Nat) (w:World) (v:Value) (xs:List α):Prop :=
 ∃ a c,v=.slice a xs.length c∧xs.length≤c∧c≤9223372036854775807∧(xs=[]∨∃ bl off,a=some ⟨bl,off,none⟩∧bl<B∧∀ i x,xs[i]?=some x→At w bl (off+i*k) x)
theorem Zia.turn {α:Type} {k:Nat} {At At':World→Nat→Nat→α→Prop} {B:Nat} {w w':World} {v:Value} {xs:List α} (h:Zia k At B w v xs) (hA:∀ bl off x,bl<B→x ∈ xs→At w bl off x→At' w' bl off x):Zia k At' B w' v xs:=by
 obtain ⟨a,c,e,h1,h2,h3⟩:=h
 exact ⟨a,c,e,h1,h2,h3.imp id fun ⟨bl,off,e,hl,hc⟩=>⟨bl,off,e,hl,fun i x hi=>hA _ _ _ hl (List.mem_of_getElem? hi) (hc i x hi)⟩⟩
def Zdv (B:Nat) (w:World) (bl off:Nat) (n:Zp):Prop :=
 ∃ la lc pv,(w.cell? ⟨bl,off,none⟩=some (.int .i64 n.id)∧w.cell? ⟨bl,off+1,none⟩=some (.slice la n.labels.length lc)∧w.cell? ⟨bl,off+2,none⟩=some pv)∧(n.labels.length≤lc∧lc≤9223372036854775807)∧Jv B w la n.labels∧Jh B w pv n.props
def Zg2 (B:Nat) (w:World) (bl off:Nat) (r:Jj):Prop :=
 ∃ pv,(w.cell? ⟨bl,off,none⟩=some (.int .i64 r.id)∧w.cell? ⟨bl,off+1,none⟩=some (.int .i64 r.fr)∧w.cell? ⟨bl,off+2,none⟩=some (.int .i64 r.tt)∧w.cell? ⟨bl,off+3,none⟩=some (.string r.type)∧w.cell? ⟨bl,off+4,none⟩=some pv)∧r.type.size≤maxLen∧Jh B w pv r.props
theorem Zdv.below {B:Nat} {w w':World} (h:Below B w w') {bl off:Nat} (hl:bl<B) {n:Zp} (hn:Zdv B w bl off n):Zdv B w' bl off n:=by
 obtain ⟨la,lc,pv,⟨c0,c1,c2⟩,hs,hk,hp⟩:=hn
 exact ⟨la,lc,pv,⟨(h.cell (p:=⟨bl,off,none⟩) hl).trans c0,(h.cell (p:=⟨bl,off+1,none⟩) hl).trans c1,(h.cell (p:=⟨bl,off+2,none⟩) hl).trans c2⟩,hs,hk.below h,hp.below h⟩
theorem Zg2.below {B:Nat} {w w':World} (h:Below B w w') {bl off:Nat} (hl:bl<B) {n:Jj} (hn:Zg2 B w bl off n):Zg2 B w' bl off n:=by
 obtain ⟨pv,⟨c0,c1,c2,c3,c4⟩,hs,hp⟩:=hn
 exact ⟨pv,⟨(h.cell (p:=⟨bl,off,none⟩) hl).trans c0,(h.cell (p:=⟨bl,off+1,none⟩) hl).trans c1,(h.cell (p:=⟨bl,off+2,none⟩) hl).trans c2,(h.cell (p:=⟨bl,off+3,none⟩) hl).trans c3,(h.cell (p:=⟨bl,off+4,none⟩) hl).trans c4⟩,hs,hp.below h⟩
def Zax (B:Nat) (w:World) (v:Value) (ns:List Zp):Prop:=Zia 3 (Zdv B) B w v ns
def Zbe (B:Nat) (w:World) (v:Value) (rs:List Jj):Prop:=Zia 5 (Zg2 B) B w v rs
theorem Zax.below {B:Nat} {w w':World} (h:Below B w w') {v:Value} {ns:List Zp} (hn:Zax B w v ns):Zax B w' v ns:=hn.turn fun _ _ _ hl _ h2=>h2.below h hl
theorem Zbe.below {B:Nat} {w w':World} (h:Below B w w') {v:Value} {ns:List Jj} (hn:Zbe B w v ns):Zbe B w' v ns:=hn.turn fun _ _ _ hl _ h2=>h2.below h hl
def Zq (B:Nat) (w:World) (v:Value) (g:Zy):Prop :=
 ∃ na nc ra rc,v=.agg #[.slice na g.nodes.length nc,.slice ra g.rels.length rc,.int .i64 g.nn,.int .i64 g.nr]∧Zax B w (.slice na g.nodes.length nc) g.nodes∧Zbe B w (.slice ra g.rels.length rc) g.rels
theorem Zq.below {B:Nat} {w w':World} (h:Below B w w') {v:Value} {g:Zy} (hn:Zq B w v g):Zq B w' v g:=by
 obtain ⟨na,nc,ra,rc,e,h1,h2⟩:=hn
 exact ⟨na,nc,ra,rc,e,h1.below h,h2.below h⟩
def Zc8 (id:Int):List Zp→Nat→Int
 | [],_=>-1
 | n::r,j=>if n.id=id then j else Zc8 id r (j+1)
theorem Zpe {id:Int} {ns:List Zp} {j:Nat} {n:Zp} (h:ns[j]?=some n):Zc8 id (ns.drop j) j=if n.id=id then (j:Int) else Zc8 id (ns.drop (j+1)) (j+1):=by
 obtain ⟨hj,hx⟩:=List.getElem?_eq_some_iff.1 h
 rw [List.drop_eq_getElem_cons hj,hx,Zc8]
theorem Zmc (id:Int):∀ (ns:List Zp) (j:Nat),decide (Zc8 id ns j<0)=!(ns.any fun n=>n.id==id)
 | [],j=>by simp [Zc8]
 | n::r,j=>by
  rw [Zc8,List.any_cons]
  by_cases h:n.id=id
  ·rw [if_pos h];simp [h]
  ·rw [if_neg h,Zmc id r (j+1),beq_eq_false_iff_ne.2 h];rfl
end
section
open Go.RowKit Go.Shelf
set_option linter.all false
attribute [local go_sem] Oper.semAt_some
def Zmx (lo B:Nat) (w:World) (cs:List Value) (q:ByteArray × Zk):Prop:=∃ v0 v1 v2 v3 v4 v5,cs=[.string q.1,v0,v1,v2,v3,v4,v5]∧q.1.size≤maxLen∧Zay lo B w (.agg #[v0,v1,v2,v3,v4,v5]) q.2
theorem Ziu (lo:Nat):Jba lo (Zmx lo) where
 keep:=fun hk ⟨v0,v1,v2,v3,v4,v5,e,hs,hv⟩=>⟨v0,v1,v2,v3,v4,v5,e,hs,hv.keep hk⟩
 mono:=fun hB ⟨v0,v1,v2,v3,v4,v5,e,hs,hv⟩=>⟨v0,v1,v2,v3,v4,v5,e,hs,hv.mono (Nat.le_refl _) hB⟩
def Zbw (lo B:Nat) (w:World) (v:Value) (ps:List (ByteArray × Zk)):Prop :=
 ∃ pa pc,v=.slice pa ps.length pc∧ps.length≤pc∧pc≤9223372036854775807∧(ps=[]∨∃ g,pa=some ⟨g,0,none⟩∧lo≤g∧g<B∧Zcx 7 w g ps.length∧Zbh 7 g (Zmx (g+1)) B w ps)
theorem Zbw.lie {lo B:Nat} {w:World} {v:Value} {ps:List (ByteArray × Zk)} (h:Zbw lo B w v ps):Jh B w v ps:=by
 obtain ⟨pa,pc,e,h1,h2,h3⟩:=h
 refine ⟨pa,pc,e,h1,h2,h3.imp id fun ⟨g,e,hl,hg,_,hf⟩=>⟨g,0,e,hg,fun i q hq=>?_⟩⟩
 obtain ⟨cs,_,hc,v0,v1,v2,v3,v4,v5,rfl,hs,hv⟩:=hf i q hq
 rw [Nat.zero_add]
 exact ⟨hc 0 _ rfl,hs,v0,v1,v2,v3,v4,v5,⟨hc 1 _ rfl,hc 2 _ rfl,hc 3 _ rfl,hc 4 _ rfl,hc 5 _ rfl,hc 6 _ rfl⟩,hv.lie⟩
theorem Zbw.keep {lo B:Nat} {w w':World} {v:Value} {ps:List (ByteArray × Zk)} (hk:Zcc lo B w w') (h:Zbw lo B w v ps):Zbw lo B w' v ps:=by
 obtain ⟨pa,pc,e,h1,h2,h3⟩:=h
 exact ⟨pa,pc,e,h1,h2,h3.imp id fun ⟨g,e,hl,hg,hr,hf⟩=>⟨g,e,hl,hg,hr.keep hk hl hg,hf.keep (Ziu _) hk hl hg⟩⟩
theorem Zbw.mono {lo lo' B B':Nat} {w:World} {v:Value} {ps:List (ByteArray × Zk)} (h1:lo'≤lo) (h2:B≤B') (h:Zbw lo B w v ps):Zbw lo' B' w v ps:=by
 obtain ⟨pa,pc,e,g1,g2,h3⟩:=h
 exact ⟨pa,pc,e,g1,g2,h3.imp id fun ⟨g,e,hl,hg,hr,hf⟩=>⟨g,e,by omega,by omega,hr,hf.mono (Ziu _) h2⟩⟩
set_option maxRecDepth 100000 in
set_option maxHeartbeats 4000000 in
theorem Zmy (ps:List (ByteArray × Zk)) (a:Addr) (pc B:Nat) (w:World) (hB:B≤w.heap.size) (hp:Jh B w (.slice (some a) ps.length pc) ps) (hn:ps.length≤2000000) (ht:∀ q ∈ ps,q.2.total≤2000000) :
  Calls Tryz.prog 100 #[.slice (some a) ps.length pc,.func (.func 101) #[] #[]] w fun e w'=>∃ v,e=.returned v∧Zbw w.heap.size w'.heap.size w' v ps∧Below w.heap.size w w':=by
 obtain ⟨pa',pc',e1,h1,h2,hp3⟩:=hp
 obtain ⟨rfl,rfl⟩:some a=pa'∧pc=pc':=by injection e1 with e1 _ e2;exact ⟨e1,e2⟩
 obtain ⟨i0,hi,hz0,hz1,hz2⟩:=info_parts Tryz.info79
 have hmk:∀ W:World,(Instr.makeSlice 45 (.int .i64 (ps.length:Int)) (.int .i64 (ps.length:Int))).run Tryz.prog W=.ok (.slice (some ⟨W.heap.size,0,none⟩) ps.length ps.length) (W.alloc (.cells (madeCells #[.string ⟨#[]⟩,.int .i64 0,.bool false,.int .i64 0,.string ⟨#[]⟩,.slice none 0 0,.slice none 0 0] (ps.length*7)) 79)):=fun W=>by
  have:=run_makeSlice (P:=Tryz.prog) W 45 79 i0 _ Tryz.underlying45 hi hz0 .i64 .i64 (ps.length:Int) (ps.length:Int) (by omega) (by omega) (by rw [hz1];omega) (by rw [hz2];omega) (by omega)
  simpa [hz1,Value.cells] using this
 have heq:∀ W:World,(binOp .eql 45 (.slice (some a) ps.length pc) (.slice none 0 0)).run Tryz.prog W=.ok (.bool false) W:=fun W=>by
  have:=Lib.run_eql_slice_nil (P:=Tryz.prog) W 45 79 (some a) ps.length pc 0 0 Tryz.underlying45
  simpa using this
 obtain ⟨W1,hW1⟩:∃ W1,w.alloc (.cells (madeCells #[.string ⟨#[]⟩,.int .i64 0,.bool false,.int .i64 0,.string ⟨#[]⟩,.slice none 0 0,.slice none 0 0] (ps.length*7)) 79)=W1:=⟨_,rfl⟩
 have hb1:Below w.heap.size w W1:=hW1▸(Below.refl _ _).alloc (Nat.le_refl _) _
 have hg1:w.heap.size<W1.heap.size:=by rw [← hW1];simp
 have hroom:Zcx 7 W1 w.heap.size ps.length:=by
  intro o ho
  rw [← hW1]
  have hs:(madeCells #[.string ⟨#[]⟩,.int .i64 0,.bool false,.int .i64 0,.string ⟨#[]⟩,.slice none 0 0,.slice none 0 0] (ps.length*7)).size=ps.length*7:=size_madeCells _ _
  refine ⟨?_,?_⟩
  ·rw [Zaf _ _ _ o _ (Array.getElem?_eq_getElem (by rw [hs];exact ho))];rfl
  ·have hn:=World.alloc_heap_new w (.cells (madeCells #[.string ⟨#[]⟩,.int .i64 0,.bool false,.int .i64 0,.string ⟨#[]⟩,.slice none 0 0,.slice none 0 0] (ps.length*7)) 79)
   unfold World.frozen?
   simp only [hn]
   simp
 have HP:=Zb hp3
 have HT:=Zb ht
 have HW1:=Zb hW1
 clear hp3 ht hW1 hi hz0 hz1 hz2 e1
 go_enter Tryz.func100,Tryz.ntmps100
 go_upto_region 4 with fail
 rw [HW1.out]
 clear hmk heq HW1
 go_wp2_with fail
 go_loopw [15] (fun i wr=>∃ j:Nat,j≤ps.length∧i=.int .i64 j∧Below w.heap.size w wr∧w.heap.size<wr.heap.size∧Zcx 7 wr w.heap.size ps.length∧Zbh 7 w.heap.size (Zmx (w.heap.size+1)) wr.heap.size wr (ps.take j)) (fun i _=>ps.length - (intOf i).toNat)
 case atStart=>exact ⟨0,Nat.zero_le _,rfl,hb1,hg1,hroom,by rw [List.take_zero];exact Ze5⟩
 case round =>
  obtain ⟨j,hj,rfl,hbr,hgr,hrm,hfi⟩:=hrel
  have HBR:=Zb hbr
  have HRM:=Zb hrm
  have HFI:=Zb hfi
  clear hbr hrm hfi hb1 hg1 hroom
  by_cases hlt:j<ps.length
  ·obtain ⟨bl,off,ha,hbl,hc⟩:=HP.out.resolve_left (by intro e;rw [e] at hlt;simp at hlt)
   obtain rfl:a=⟨bl,off,none⟩:=by simpa using ha
   obtain ⟨⟨x,⟨tk,tb,tn,ts,tks,tts⟩⟩,hx⟩:∃ q,ps[j]?=some q:=⟨_,List.getElem?_eq_getElem hlt⟩
   have HX:=Zb hx
   obtain ⟨cx,hsx,v0,v1,v2,v3,v4,v5,⟨c0,c1,c2,c3,c4,c5⟩,hv⟩:=(hc j _ hx).below (HBR.out.mono hB) hbl
   have htx:=HT.out _ (List.mem_of_getElem? hx)
   simp only at cx hsx hv htx
   have HSX:=Zb hsx
   have hv0:=hv
   simp only [Zaw] at hv
   obtain ⟨kaa,kcc,laa,lcc,hag,_⟩:=hv
   obtain ⟨rfl,rfl,rfl,rfl,rfl,rfl⟩:v0=.int .i64 tk∧v1=.bool tb∧v2=.int .i64 tn∧v3=.string ts∧v4=.slice kaa tks.length kcc∧v5=.slice laa tts.length lcc:=by
    simpa using hag
   have HV:=Zb hv0
   clear hc hx hag hv0 hsx ha
   go_upto_region 7 with fail
   generalize hW2:World.alloc _ _=W2
   have hr2:=Zl wr #[.string x,.int .i64 tk,.bool tb,.int .i64 tn,.string ts,.slice kaa tks.length kcc,.slice laa tts.length lcc] 79
   rw [hW2] at hr2
   have HB2:Hid (Below wr.heap.size wr W2):=by rw [← hW2];exact (Below.refl _ _).alloc (Nat.le_refl _) _
   have HC:=Zb (Zgy x (.mk tk tb tn ts tks tts) _ _ _ _ _ _ B W2 (by have:=HBR.out.size;have:=HB2.out.size;omega) (HV.out.below (HB2.out.mono (by omega))) htx)
   have k0:=hr2.cell 0 rfl
   have k1:=hr2.cell 1 rfl
   have k2:=hr2.cell 2 rfl
   have k3:=hr2.cell 3 rfl
   have k4:=hr2.cell 4 rfl
   have k5:=hr2.cell 5 rfl
   have k6:=hr2.cell 6 rfl
   have hw2:=hr2.lt
   clear hW2 hr2 cx c0 c1 c2 c3 c4 c5 htx
   go_wp2_with fail
   refine HC.out.mono ?_
   rintro e w3 ⟨d0,d1,d2,d3,d4,d5,rfl,hl3,hb3⟩
   have HL3:=Zb hl3
   simp only [Zay] at hl3
   obtain ⟨ka',kc',la',lc',hag,_⟩:=hl3
   obtain ⟨rfl,rfl,rfl,rfl,rfl,rfl⟩:d0=.int .i64 tk∧d1=.bool tb∧d2=.int .i64 tn∧d3=.string ts∧d4=.slice ka' tks.length kc'∧d5=.slice la' tts.length lc':=by
    simpa using hag
   have HBA:=Zb (Za HB2.out hb3)
   have hsz3:wr.heap.size<w3.heap.size:=by have:=hb3.size;omega
   have hrm3:=HRM.out.below HBA.out hgr
   have HR3:=Zb hrm3
   obtain ⟨u0,y0⟩:=Option.isSome_iff_exists.1 (hrm3 (j*7) (by omega)).1
   obtain ⟨u1,y1⟩:=Option.isSome_iff_exists.1 (hrm3 (j*7+1) (by omega)).1
   obtain ⟨u2,y2⟩:=Option.isSome_iff_exists.1 (hrm3 (j*7+2) (by omega)).1
   obtain ⟨u3,y3⟩:=Option.isSome_iff_exists.1 (hrm3 (j*7+3) (by omega)).1
   obtain ⟨u4,y4⟩:=Option.isSome_iff_exists.1 (hrm3 (j*7+4) (by omega)).1
   obtain ⟨u5,y5⟩:=Option.isSome_iff_exists.1 (hrm3 (j*7+5) (by omega)).1
   obtain ⟨u6,y6⟩:=Option.isSome_iff_exists.1 (hrm3 (j*7+6) (by omega)).1
   have f0:=(hrm3 (j*7) (by omega)).2
   have f1:=(hrm3 (j*7+1) (by omega)).2
   have f2:=(hrm3 (j*7+2) (by omega)).2
   have f3:=(hrm3 (j*7+3) (by omega)).2
   have f4:=(hrm3 (j*7+4) (by omega)).2
   have f5:=(hrm3 (j*7+5) (by omega)).2
   have f6:=(hrm3 (j*7+6) (by omega)).2
   have HL:Hid (w.heap.size+1≤W2.heap.size):=by
    show _≤_
    omega
   clear hb3 hag hrm3 k0 k1 k2 k3 k4 k5 k6 HC
   go_upto_region 8 with fail
   clear y0 y1 y2 y3 y4 y5 y6 f0 f1 f2 f3 f4 f5 f6
   generalize hW4:World.setCell _ _ _=W4
   have hW4':w3.setCells w.heap.size (j*7) [.string x,.int .i64 tk,.bool tb,.int .i64 tn,.string ts,.slice ka' tks.length kc',.slice la' tts.length lc']=W4:=by rw [← hW4];rfl
   have HB4:Hid (Below w.heap.size w W4):=by
    rw [← hW4']
    exact Zdp (Nat.le_refl _) _ _ _ (Za HBR.out HBA.out)
   have HR4:Hid (Zcx 7 W4 w.heap.size ps.length):=by
    rw [← hW4']
    exact HR3.out.puts _ (by simp;omega)
   have HF4:Hid (Zbh 7 w.heap.size (Zmx (w.heap.size+1)) W4.heap.size W4 (ps.take (j+1))):=by
    rw [← hW4',Zbz]
    exact Ze6 (n:=ps.length) (Ziu _) HX.out hgr HBA.out HFI.out rfl ⟨_,_,_,_,_,_,rfl,HSX.out,HL3.out.mono HL.out (Nat.le_refl _)⟩ HR3.out hlt
   have hs4:w.heap.size<W4.heap.size:=by
    rw [← hW4',Zbz];omega
   clear hW4 hW4'
   go_wp2_with fail
   go_roundw
   case rel=>exact ⟨j+1,by omega,by go_num,HB4.out,hs4,HR4.out,HF4.out⟩
   case measure=>simp [intOf];omega
  ·have HF2:Hid (Zbh 7 w.heap.size (Zmx (w.heap.size+1)) wr.heap.size wr ps):=by
    have:=HFI.out
    rwa [List.take_of_length_le (by omega)] at this
   go_wp2_with fail
   go_ret
   exact ⟨_,rfl,⟨_,_,rfl,Nat.le_refl _,by omega,.inr ⟨w.heap.size,rfl,Nat.le_refl _,hgr,HRM.out,HF2.out⟩⟩,HBR.out⟩
theorem Ziv (v:Value) (ps:List (ByteArray × Zk)) (B:Nat) (w:World) (hB:B≤w.heap.size) (hp:Jh B w v ps) (hn:ps.length≤2000000) (ht:∀ q ∈ ps,q.2.total≤2000000) :
  Calls Tryz.prog 100 #[v,.func (.func 101) #[] #[]] w fun e w'=>∃ v,e=.returned v∧Zbw w.heap.size w'.heap.size w' v ps∧Below w.heap.size w w':=by
 have hp0:=hp
 obtain ⟨pa,pc,rfl,h1,h2,h3⟩:=hp
 cases pa with
 | none =>
  have h0:ps=[]:=h3.elim id fun ⟨bl,off,e,_⟩=>by cases e
  subst h0
  refine (Zib _ _ pc w).mono ?_
  rintro e w' ⟨rfl,rfl⟩
  exact ⟨_,rfl,⟨none,0,rfl,Nat.le_refl _,by omega,.inl rfl⟩,Below.refl _ _⟩
 | some a=>exact Zmy ps a pc B w hB hp0 hn ht
end
section
open Go.RowKit Go.Shelf Go.WideShapes
set_option maxHeartbeats 8000000
set_option maxRecDepth 100000
set_option linter.all false
noncomputable def RK6  : Array Oper:=Jg Tryz.f151 6
def LK6  : List Sig:=[⟨58,.fieldAddr 60 (.tmp 2) 4,0,none⟩,⟨59,.load 44 (.tmp 58),44,none⟩,⟨60,.move (.tmp 5),3,none⟩,⟨61,.indexAddr 44 (.tmp 59) (.tmp 60),0,none⟩,⟨62,.load 9 (.tmp 61),9,none⟩,⟨63,.fieldAddr 60 (.tmp 3) 4,0,none⟩,⟨64,.load 44 (.tmp 63),44,none⟩,⟨65,.move (.tmp 5),3,none⟩,⟨66,.indexAddr 44 (.tmp 64) (.tmp 65),0,none⟩,⟨67,.load 9 (.tmp 66),9,none⟩,⟨68,.binOp .neq 9 (.tmp 62) (.tmp 67) 9,4,none⟩]
theorem Jgf  : Jq RK6=LK6.map some:=by kernel_rfl
def AK6  : List (List Nat):=[[],[0],[],[1,2],[3],[],[5],[],[6,7],[8],[4,9]]
structure Zpg (G H bl off kl kc bl2 off2 kl2 kc2 j:Nat) (x y:ByteArray) (c:Act):Prop where
 t2:c.eval (.tmp 2)=.pointer (some ⟨G,0,none⟩)
 t3:c.eval (.tmp 3)=.pointer (some ⟨H,0,none⟩)
 t5:c.eval (.tmp 5)=.int .i64 (j:Int)
def VKA (G H bl off kl kc bl2 off2 kl2 kc2 j:Nat) (x y:ByteArray):List Value:=[.pointer (some ⟨G,4,none⟩),.slice (some ⟨bl,off,none⟩) kl kc,.int .i64 (j:Int),.pointer (some ⟨bl,off+j,none⟩),.string x,.pointer (some ⟨H,4,none⟩),.slice (some ⟨bl2,off2,none⟩) kl2 kc2,.int .i64 (j:Int),.pointer (some ⟨bl2,off2+j,none⟩),.string y,.bool true]
structure Zuj (G H bl off kl kc bl2 off2 kl2 kc2 j:Nat) (x y:ByteArray) (w:World):Prop where
 g:w.cell? ⟨G,4,none⟩=some (.slice (some ⟨bl,off,none⟩) kl kc)
 lt:j<kl
 le:kl≤9223372036854775807
 cx:w.cell? ⟨bl,off+j,none⟩=some (.string x)
 h:w.cell? ⟨H,4,none⟩=some (.slice (some ⟨bl2,off2,none⟩) kl2 kc2)
 lt2:j<kl2
 le2:kl2≤9223372036854775807
 cy:w.cell? ⟨bl2,off2+j,none⟩=some (.string y)
 a1:(!(x.toList==y.toList))=true
theorem Zxy (G H bl off kl kc bl2 off2 kl2 kc2 j:Nat) (x y:ByteArray) (Q:Exit→Act→World→Prop) (base:Act) (w0:World) (hsz:base.tmps.size=88) (hb:Zpg G H bl off kl kc bl2 off2 kl2 kc2 j x y base)
  (hW:∀ w,Below w0.heap.size w0 w→Zuj G H bl off kl kc bl2 off2 kl2 kc2 j x y w) (hQ:∀ c w,Zae RK6 base c→Below w0.heap.size w0 w→c.eval (.tmp 68)=.bool true→Q .normal c w):(Code.region 6 RK6 true).wp Tryz.prog Q base w0:=by
 refine Zr (B:=Zpg G H bl off kl kc bl2 off2 kl2 kc2 j x y) (T:=Zuj G H bl off kl kc bl2 off2 kl2 kc2 j x y) (n:=11) (k:=10) LK6 AK6 (VKA G H bl off kl kc bl2 off2 kl2 kc2 j x y) Jgf rfl (by kernel_rfl) (by kernel_rfl) (by kernel_rfl) (by rw [hsz];kernel_rfl) (fun c hS=>⟨(Zc hS (by kernel_rfl)).trans hb.t2,(Zc hS (by kernel_rfl)).trans hb.t3,(Zc hS (by kernel_rfl)).trans hb.t5⟩) hW ?_ (by decide) rfl rfl hQ
 clear hsz hb hW hQ
 iterate 11 (refine Zd ?_ (by
  intro c w hb hW hEq
  obtain ⟨t2,t3,t5⟩:=hb
  obtain ⟨g,lt,le,cx,h,lt2,le2,cy,a1⟩:=hW
  have ec:=evc c
  have ef:=evf c
  dsimp only [AK6,LK6,VKA,nth,Zcm,Zbd,Jl] at hEq ⊢
  first
  | exact ⟨by first | exact hEq.1 | exact hEq.2.1 | exact hEq.2.2.1 | exact hEq.2.2.2.1,.inr ⟨by first | exact .inl rfl | exact .inr rfl,rfl⟩⟩
  | ((try refine ⟨by first | exact hEq.1 | exact hEq.2.1 | exact hEq.2.2.1 | exact hEq.2.2.2.1,.inl ⟨rfl,?_⟩⟩);first | (refine .inl fun pos af=>?_;(dsimp only [Sig.oper];generalize c.eval=ρ at *;go_simp;done)) | (refine .inl fun pos af=>?_;dsimp only [Sig.oper];generalize c.eval=ρ at *;go_simp;simp only [decide_eq_true_eq,decide_eq_false_iff_not] at *;omega))))
 exact Zj
def VKB (G H bl off kl kc bl2 off2 kl2 kc2 j:Nat) (x y:ByteArray):List Value:=[.pointer (some ⟨G,4,none⟩),.slice (some ⟨bl,off,none⟩) kl kc,.int .i64 (j:Int),.pointer (some ⟨bl,off+j,none⟩),.string x,.pointer (some ⟨H,4,none⟩),.slice (some ⟨bl2,off2,none⟩) kl2 kc2,.int .i64 (j:Int),.pointer (some ⟨bl2,off2+j,none⟩),.string y,.bool false]
structure Zuk (G H bl off kl kc bl2 off2 kl2 kc2 j:Nat) (x y:ByteArray) (w:World):Prop where
 g:w.cell? ⟨G,4,none⟩=some (.slice (some ⟨bl,off,none⟩) kl kc)
 lt:j<kl
 le:kl≤9223372036854775807
 cx:w.cell? ⟨bl,off+j,none⟩=some (.string x)
 h:w.cell? ⟨H,4,none⟩=some (.slice (some ⟨bl2,off2,none⟩) kl2 kc2)
 lt2:j<kl2
 le2:kl2≤9223372036854775807
 cy:w.cell? ⟨bl2,off2+j,none⟩=some (.string y)
 a1:(!(x.toList==y.toList))=false
theorem Zxz (G H bl off kl kc bl2 off2 kl2 kc2 j:Nat) (x y:ByteArray) (Q:Exit→Act→World→Prop) (base:Act) (w0:World) (hsz:base.tmps.size=88) (hb:Zpg G H bl off kl kc bl2 off2 kl2 kc2 j x y base)
  (hW:∀ w,Below w0.heap.size w0 w→Zuk G H bl off kl kc bl2 off2 kl2 kc2 j x y w) (hQ:∀ c w,Zae RK6 base c→Below w0.heap.size w0 w→c.eval (.tmp 68)=.bool false→Q .normal c w):(Code.region 6 RK6 true).wp Tryz.prog Q base w0:=by
 refine Zr (B:=Zpg G H bl off kl kc bl2 off2 kl2 kc2 j x y) (T:=Zuk G H bl off kl kc bl2 off2 kl2 kc2 j x y) (n:=11) (k:=10) LK6 AK6 (VKB G H bl off kl kc bl2 off2 kl2 kc2 j x y) Jgf rfl (by kernel_rfl) (by kernel_rfl) (by kernel_rfl) (by rw [hsz];kernel_rfl) (fun c hS=>⟨(Zc hS (by kernel_rfl)).trans hb.t2,(Zc hS (by kernel_rfl)).trans hb.t3,(Zc hS (by kernel_rfl)).trans hb.t5⟩) hW ?_ (by decide) rfl rfl hQ
 clear hsz hb hW hQ
 iterate 11 (refine Zd ?_ (by
  intro c w hb hW hEq
  obtain ⟨t2,t3,t5⟩:=hb
  obtain ⟨g,lt,le,cx,h,lt2,le2,cy,a1⟩:=hW
  have ec:=evc c
  have ef:=evf c
  dsimp only [AK6,LK6,VKB,nth,Zcm,Zbd,Jl] at hEq ⊢
  first
  | exact ⟨by first | exact hEq.1 | exact hEq.2.1 | exact hEq.2.2.1 | exact hEq.2.2.2.1,.inr ⟨by first | exact .inl rfl | exact .inr rfl,rfl⟩⟩
  | ((try refine ⟨by first | exact hEq.1 | exact hEq.2.1 | exact hEq.2.2.1 | exact hEq.2.2.2.1,.inl ⟨rfl,?_⟩⟩);first | (refine .inl fun pos af=>?_;(dsimp only [Sig.oper];generalize c.eval=ρ at *;go_simp;done)) | (refine .inl fun pos af=>?_;dsimp only [Sig.oper];generalize c.eval=ρ at *;go_simp;simp only [decide_eq_true_eq,decide_eq_false_iff_not] at *;omega))))
 exact Zj
noncomputable def Jbc  : Array Oper:=Jg Tryz.f151 11
def Jc4  : List Sig:=[⟨76,.fieldAddr 60 (.tmp 2) 5,0,none⟩,⟨77,.load 58 (.tmp 76),58,none⟩,⟨78,.move (.tmp 6),3,none⟩,⟨79,.indexAddr 58 (.tmp 77) (.tmp 78),0,none⟩,⟨80,.load 60 (.tmp 79),60,none⟩,⟨81,.fieldAddr 60 (.tmp 3) 5,0,none⟩,⟨82,.load 58 (.tmp 81),58,none⟩,⟨83,.move (.tmp 6),3,none⟩,⟨84,.indexAddr 58 (.tmp 82) (.tmp 83),0,none⟩,⟨85,.load 60 (.tmp 84),60,none⟩,⟨86,.call { callee:=.value (.func 151),args:=#[.tmp 80,.tmp 85],argTypes:=#[60,60] },4,none⟩,⟨87,.unOp .not 4 (.tmp 86),4,none⟩]
theorem Jc5  : Jq Jbc=Jc4.map some:=by kernel_rfl
def Jeu  : List (List Nat):=[[],[0],[],[1,2],[3],[],[5],[],[6,7],[8],[4,9],[10]]
structure Zks (G H bl off kl kc bl2 off2 kl2 kc2 j:Nat) (v0 v1 v2 v3 v4 v5 u0 u1 u2 u3 u4 u5:Value) (c:Act):Prop where
 t2:c.eval (.tmp 2)=.pointer (some ⟨G,0,none⟩)
 t3:c.eval (.tmp 3)=.pointer (some ⟨H,0,none⟩)
 t6:c.eval (.tmp 6)=.int .i64 (j:Int)
def Jgg (G H bl off kl kc bl2 off2 kl2 kc2 j:Nat) (v0 v1 v2 v3 v4 v5 u0 u1 u2 u3 u4 u5:Value):List Value:=[.pointer (some ⟨G,5,none⟩),.slice (some ⟨bl,off,none⟩) kl kc,.int .i64 (j:Int),.pointer (some ⟨bl,off+j*6,none⟩),.agg #[v0,v1,v2,v3,v4,v5],.pointer (some ⟨H,5,none⟩),.slice (some ⟨bl2,off2,none⟩) kl2 kc2,.int .i64 (j:Int),.pointer (some ⟨bl2,off2+j*6,none⟩),.agg #[u0,u1,u2,u3,u4,u5],.bool false,.bool true]
structure Zph (G H bl off kl kc bl2 off2 kl2 kc2 j:Nat) (v0 v1 v2 v3 v4 v5 u0 u1 u2 u3 u4 u5:Value) (w:World):Prop where
 g:w.cell? ⟨G,5,none⟩=some (.slice (some ⟨bl,off,none⟩) kl kc)
 lt:j<kl
 le:kl≤9223372036854775807
 c0:w.cell? ⟨bl,off+j*6,none⟩=some (v0)
 c1:w.cell? ⟨bl,off+j*6+1,none⟩=some (v1)
 c2:w.cell? ⟨bl,off+j*6+2,none⟩=some (v2)
 c3:w.cell? ⟨bl,off+j*6+3,none⟩=some (v3)
 c4:w.cell? ⟨bl,off+j*6+4,none⟩=some (v4)
 c5:w.cell? ⟨bl,off+j*6+5,none⟩=some (v5)
 h:w.cell? ⟨H,5,none⟩=some (.slice (some ⟨bl2,off2,none⟩) kl2 kc2)
 lt2:j<kl2
 le2:kl2≤9223372036854775807
 d0:w.cell? ⟨bl2,off2+j*6,none⟩=some (u0)
 d1:w.cell? ⟨bl2,off2+j*6+1,none⟩=some (u1)
 d2:w.cell? ⟨bl2,off2+j*6+2,none⟩=some (u2)
 d3:w.cell? ⟨bl2,off2+j*6+3,none⟩=some (u3)
 d4:w.cell? ⟨bl2,off2+j*6+4,none⟩=some (u4)
 d5:w.cell? ⟨bl2,off2+j*6+5,none⟩=some (u5)
 k1:Calls Tryz.prog 151 #[.agg #[v0,v1,v2,v3,v4,v5],.agg #[u0,u1,u2,u3,u4,u5]] w fun e w'=>e=.returned (.bool false)∧Below w.heap.size w w'
theorem Zul (G H bl off kl kc bl2 off2 kl2 kc2 j:Nat) (v0 v1 v2 v3 v4 v5 u0 u1 u2 u3 u4 u5:Value) (Q:Exit→Act→World→Prop) (base:Act) (w0:World) (hsz:base.tmps.size=88) (hb:Zks G H bl off kl kc bl2 off2 kl2 kc2 j v0 v1 v2 v3 v4 v5 u0 u1 u2 u3 u4 u5 base)
  (hW:∀ w,Below w0.heap.size w0 w→Zph G H bl off kl kc bl2 off2 kl2 kc2 j v0 v1 v2 v3 v4 v5 u0 u1 u2 u3 u4 u5 w) (hQ:∀ c w,Zae Jbc base c→Below w0.heap.size w0 w→c.eval (.tmp 87)=.bool true→Q .normal c w):(Code.region 11 Jbc true).wp Tryz.prog Q base w0:=by
 refine Zr (B:=Zks G H bl off kl kc bl2 off2 kl2 kc2 j v0 v1 v2 v3 v4 v5 u0 u1 u2 u3 u4 u5) (T:=Zph G H bl off kl kc bl2 off2 kl2 kc2 j v0 v1 v2 v3 v4 v5 u0 u1 u2 u3 u4 u5) (n:=12) (k:=11) Jc4 Jeu (Jgg G H bl off kl kc bl2 off2 kl2 kc2 j v0 v1 v2 v3 v4 v5 u0 u1 u2 u3 u4 u5) Jc5 rfl (by kernel_rfl) (by kernel_rfl) (by kernel_rfl) (by rw [hsz];kernel_rfl) (fun c hS=>⟨(Zc hS (by kernel_rfl)).trans hb.t2,(Zc hS (by kernel_rfl)).trans hb.t3,(Zc hS (by kernel_rfl)).trans hb.t6⟩) hW ?_ (by decide) rfl rfl hQ
 clear hsz hb hW hQ
 iterate 12 (refine Zd ?_ (by
  intro c w hb hW hEq
  obtain ⟨t2,t3,t6⟩:=hb
  obtain ⟨g,lt,le,c0,c1,c2,c3,c4,c5,h,lt2,le2,d0,d1,d2,d3,d4,d5,k1⟩:=hW
  have ec:=evc c
  have ef:=evf c
  dsimp only [Jeu,Jc4,Jgg,nth,Zcm,Zbd,Jl] at hEq ⊢
  first
  | exact ⟨by first | exact hEq.1 | exact hEq.2.1 | exact hEq.2.2.1 | exact hEq.2.2.2.1,.inr ⟨by first | exact .inl rfl | exact .inr rfl,rfl⟩⟩
  | ((try refine ⟨by first | exact hEq.1 | exact hEq.2.1 | exact hEq.2.2.1 | exact hEq.2.2.2.1,.inl ⟨rfl,?_⟩⟩);first | (refine Zm Tryz.call151 k1 ?_;simp only [List.map_toArray,List.map_cons,List.map_nil,hEq];done) | (refine .inl fun pos af=>?_;(clear k1;dsimp only [Sig.oper];generalize c.eval=ρ at *;go_simp;done)))))
 exact Zj
def Jgh (G H bl off kl kc bl2 off2 kl2 kc2 j:Nat) (v0 v1 v2 v3 v4 v5 u0 u1 u2 u3 u4 u5:Value):List Value:=[.pointer (some ⟨G,5,none⟩),.slice (some ⟨bl,off,none⟩) kl kc,.int .i64 (j:Int),.pointer (some ⟨bl,off+j*6,none⟩),.agg #[v0,v1,v2,v3,v4,v5],.pointer (some ⟨H,5,none⟩),.slice (some ⟨bl2,off2,none⟩) kl2 kc2,.int .i64 (j:Int),.pointer (some ⟨bl2,off2+j*6,none⟩),.agg #[u0,u1,u2,u3,u4,u5],.bool true,.bool false]
structure Zpi (G H bl off kl kc bl2 off2 kl2 kc2 j:Nat) (v0 v1 v2 v3 v4 v5 u0 u1 u2 u3 u4 u5:Value) (w:World):Prop where
 g:w.cell? ⟨G,5,none⟩=some (.slice (some ⟨bl,off,none⟩) kl kc)
 lt:j<kl
 le:kl≤9223372036854775807
 c0:w.cell? ⟨bl,off+j*6,none⟩=some (v0)
 c1:w.cell? ⟨bl,off+j*6+1,none⟩=some (v1)
 c2:w.cell? ⟨bl,off+j*6+2,none⟩=some (v2)
 c3:w.cell? ⟨bl,off+j*6+3,none⟩=some (v3)
 c4:w.cell? ⟨bl,off+j*6+4,none⟩=some (v4)
 c5:w.cell? ⟨bl,off+j*6+5,none⟩=some (v5)
 h:w.cell? ⟨H,5,none⟩=some (.slice (some ⟨bl2,off2,none⟩) kl2 kc2)
 lt2:j<kl2
 le2:kl2≤9223372036854775807
 d0:w.cell? ⟨bl2,off2+j*6,none⟩=some (u0)
 d1:w.cell? ⟨bl2,off2+j*6+1,none⟩=some (u1)
 d2:w.cell? ⟨bl2,off2+j*6+2,none⟩=some (u2)
 d3:w.cell? ⟨bl2,off2+j*6+3,none⟩=some (u3)
 d4:w.cell? ⟨bl2,off2+j*6+4,none⟩=some (u4)
 d5:w.cell? ⟨bl2,off2+j*6+5,none⟩=some (u5)
 k1:Calls Tryz.prog 151 #[.agg #[v0,v1,v2,v3,v4,v5],.agg #[u0,u1,u2,u3,u4,u5]] w fun e w'=>e=.returned (.bool true)∧Below w.heap.size w w'
theorem Zum (G H bl off kl kc bl2 off2 kl2 kc2 j:Nat) (v0 v1 v2 v3 v4 v5 u0 u1 u2 u3 u4 u5:Value) (Q:Exit→Act→World→Prop) (base:Act) (w0:World) (hsz:base.tmps.size=88) (hb:Zks G H bl off kl kc bl2 off2 kl2 kc2 j v0 v1 v2 v3 v4 v5 u0 u1 u2 u3 u4 u5 base)
  (hW:∀ w,Below w0.heap.size w0 w→Zpi G H bl off kl kc bl2 off2 kl2 kc2 j v0 v1 v2 v3 v4 v5 u0 u1 u2 u3 u4 u5 w) (hQ:∀ c w,Zae Jbc base c→Below w0.heap.size w0 w→c.eval (.tmp 87)=.bool false→Q .normal c w):(Code.region 11 Jbc true).wp Tryz.prog Q base w0:=by
 refine Zr (B:=Zks G H bl off kl kc bl2 off2 kl2 kc2 j v0 v1 v2 v3 v4 v5 u0 u1 u2 u3 u4 u5) (T:=Zpi G H bl off kl kc bl2 off2 kl2 kc2 j v0 v1 v2 v3 v4 v5 u0 u1 u2 u3 u4 u5) (n:=12) (k:=11) Jc4 Jeu (Jgh G H bl off kl kc bl2 off2 kl2 kc2 j v0 v1 v2 v3 v4 v5 u0 u1 u2 u3 u4 u5) Jc5 rfl (by kernel_rfl) (by kernel_rfl) (by kernel_rfl) (by rw [hsz];kernel_rfl) (fun c hS=>⟨(Zc hS (by kernel_rfl)).trans hb.t2,(Zc hS (by kernel_rfl)).trans hb.t3,(Zc hS (by kernel_rfl)).trans hb.t6⟩) hW ?_ (by decide) rfl rfl hQ
 clear hsz hb hW hQ
 iterate 12 (refine Zd ?_ (by
  intro c w hb hW hEq
  obtain ⟨t2,t3,t6⟩:=hb
  obtain ⟨g,lt,le,c0,c1,c2,c3,c4,c5,h,lt2,le2,d0,d1,d2,d3,d4,d5,k1⟩:=hW
  have ec:=evc c
  have ef:=evf c
  dsimp only [Jeu,Jc4,Jgh,nth,Zcm,Zbd,Jl] at hEq ⊢
  first
  | exact ⟨by first | exact hEq.1 | exact hEq.2.1 | exact hEq.2.2.1 | exact hEq.2.2.2.1,.inr ⟨by first | exact .inl rfl | exact .inr rfl,rfl⟩⟩
  | ((try refine ⟨by first | exact hEq.1 | exact hEq.2.1 | exact hEq.2.2.1 | exact hEq.2.2.2.1,.inl ⟨rfl,?_⟩⟩);first | (refine Zm Tryz.call151 k1 ?_;simp only [List.map_toArray,List.map_cons,List.map_nil,hEq];done) | (refine .inl fun pos af=>?_;(clear k1;dsimp only [Sig.oper];generalize c.eval=ρ at *;go_simp;done)))))
 exact Zj
attribute [local go_sem] Oper.semAt_some
def Zck  : List ByteArray→List ByteArray→Bool
 | [],_=>true
 | _::_,[]=>true
 | x::r,y::r'=>(x.toList==y.toList)&&Zck r r'
mutual
def Zec  : Zk→Zk→Bool
 | .mk k x n s ks ts,.mk k' x' n' s' ks' ts'=>!(k != k')&&((x==x')&&(!(n != n')&&((s.toList==s'.toList)&&(!((ks.length:Int) != (ks'.length:Int))&&(!((ts.length:Int) != (ts'.length:Int))&&(Zck ks ks'&&alikeL ts ts'))))))
def alikeL  : List Zk→List Zk→Bool
 | [],_=>true
 | _::_,[]=>true
 | t::r,t'::r'=>Zec t t'&&alikeL r r'
end
theorem Zme {ks ks':List ByteArray} {j:Nat} {x y:ByteArray} (h:ks[j]?=some x) (h':ks'[j]?=some y):Zck (ks.drop j) (ks'.drop j)=((x.toList==y.toList)&&Zck (ks.drop (j+1)) (ks'.drop (j+1))):=by
 obtain ⟨hj,hx⟩:=List.getElem?_eq_some_iff.1 h
 obtain ⟨hj',hx'⟩:=List.getElem?_eq_some_iff.1 h'
 rw [List.drop_eq_getElem_cons hj,hx,List.drop_eq_getElem_cons hj',hx',Zck]
theorem Zun {ks ks':List Zk} {j:Nat} {x y:Zk} (h:ks[j]?=some x) (h':ks'[j]?=some y):alikeL (ks.drop j) (ks'.drop j)=(Zec x y&&alikeL (ks.drop (j+1)) (ks'.drop (j+1))):=by
 obtain ⟨hj,hx⟩:=List.getElem?_eq_some_iff.1 h
 obtain ⟨hj',hx'⟩:=List.getElem?_eq_some_iff.1 h'
 rw [List.drop_eq_getElem_cons hj,hx,List.drop_eq_getElem_cons hj',hx',alikeL]
theorem Zuo  : ∀ (T:Zk) (B:Nat) (v v':Value) (T':Zk) (w:World),B≤w.heap.size→Zaw B w v T→Zaw B w v' T' →
  Calls Tryz.prog 151 #[v,v'] w fun e w'=>e=.returned (.bool (Zec T T'))∧Below w.heap.size w w':=by
 refine Zk.ind ?_
 intro k x n s ks ts ih B v v' T' w hB hv hv'
 obtain ⟨k',x',n',s',ks',ts'⟩:=T'
 obtain ⟨res,hres⟩:∃ r,Zec (.mk k x n s ks ts) (.mk k' x' n' s' ks' ts')=r:=⟨_,rfl⟩
 rw [hres]
 rw [Zec] at hres
 have HR:=Zb hres
 simp only [Zaw] at hv hv'
 obtain ⟨ka,kc,la,lc,rfl,⟨hs1,hs2,hs3,hs4,hs5⟩,hk,ht⟩:=hv
 obtain ⟨ka2,kc2,la2,lc2,rfl,⟨gs1,gs2,gs3,gs4,gs5⟩,hk',ht'⟩:=hv'
 unfold maxLen at hs1 hs3 hs5 gs3 gs5
 have HIH:=Zb ih
 have HKK:=Zb (And.intro hk hk')
 have HTT:=Zb (And.intro ht ht')
 obtain ⟨n1,hn1⟩:∃ n,ks.length=n:=⟨_,rfl⟩
 obtain ⟨n2,hn2⟩:∃ n,ks'.length=n:=⟨_,rfl⟩
 obtain ⟨m1,hm1⟩:∃ n,ts.length=n:=⟨_,rfl⟩
 obtain ⟨m2,hm2⟩:∃ n,ts'.length=n:=⟨_,rfl⟩
 have HN1:=Zb hn1
 have HN2:=Zb hn2
 have HM1:=Zb hm1
 have HM2:=Zb hm2
 rw [hn1,hn2,hm1,hm2] at HR
 rw [hn1] at hs2
 rw [hn2] at gs2
 rw [hm1] at hs4
 rw [hm2] at gs4
 rw [hn1,hn2,hm1,hm2]
 clear ih hk hk' ht ht' hres hn1 hn2 hm1 hm2
 obtain ⟨W1,hW1⟩:∃ W1,((w.alloc (.cells #[.int .i64 k,.bool x,.int .i64 n,.string s,.slice ka n1 kc,.slice la m1 lc] 60)).alloc (.cells #[.int .i64 k',.bool x',.int .i64 n',.string s',.slice ka2 n2 kc2,.slice la2 m2 lc2] 60))=W1:=⟨_,rfl⟩
 have HX:Hid (∀ W,Below W1.heap.size W1 W→Below w.heap.size w W∧(∀ i v,(#[.int .i64 k,.bool x,.int .i64 n,.string s,.slice ka n1 kc,.slice la m1 lc]:Array Value)[i]?=some v→W.cell? ⟨w.heap.size,i,none⟩=some v)∧(∀ i v,(#[.int .i64 k',.bool x',.int .i64 n',.string s',.slice ka2 n2 kc2,.slice la2 m2 lc2]:Array Value)[i]?=some v→W.cell? ⟨w.heap.size+1,i,none⟩=some v)):=fun W hb=>by
  rw [← hW1] at hb
  exact Zf4 hb
 have HZ:Hid (w.heap.size+1<W1.heap.size):=by
  show _<_
  rw [← hW1];simp
 have HB1:=Zb (HX.out W1 (Below.refl _ _)).1
 have HW1:=Zb hW1
 obtain ⟨_,g,h⟩:=HX.out W1 (Below.refl _ _)
 have q0:=g 0 _ rfl
 have q1:=g 1 _ rfl
 have q2:=g 2 _ rfl
 have q3:=g 3 _ rfl
 have q4:=g 4 _ rfl
 have q5:=g 5 _ rfl
 have w0:=h 0 _ rfl
 have w1:=h 1 _ rfl
 have w2:=h 2 _ rfl
 have w3:=h 3 _ rfl
 have w4:=h 4 _ rfl
 have w5:=h 5 _ rfl
 clear hW1 g h
 go_enter Tryz.func151,Tryz.ntmps151
 go_upto_region 1 with fail
 rw [HW1.out]
 clear HW1
 by_cases b1:(k != k')=true
 ·have z1:=b1
  have HF:Hid (res=false):=by
   show _=_
   rw [← HR.out,z1];rfl
  go_wp2_with fail
  go_ret
  exact ⟨by rw [HF.out];rfl,HB1.out⟩
 ·have z1:(k != k')=false:=by simpa using b1
  clear b1
  by_cases b2:¬ x=x'
  ·have z2:(x==x')=false:=by simpa using b2
   have HF:Hid (res=false):=by
    show _=_
    rw [← HR.out,z1,z2];rfl
   cases x<;>cases x'
   ·exact absurd rfl b2
   ·clear b2 z2
    go_wp2_with fail
    go_ret
    exact ⟨by rw [HF.out];rfl,HB1.out⟩
   ·clear b2 z2
    go_wp2_with fail
    go_ret
    exact ⟨by rw [HF.out];rfl,HB1.out⟩
   ·exact absurd rfl b2
  ·have z2:x=x':=by simpa using b2
   clear b2
   subst z2
   have HX2:Hid ((x==x)=true):=by
    show _=_
    simp
   by_cases b3:(n != n')=true
   ·have z3:=b3
    have HF:Hid (res=false):=by
     show _=_
     rw [← HR.out,z1,HX2.out,z3];rfl
    go_wp2_with fail
    go_ret
    exact ⟨by rw [HF.out];rfl,HB1.out⟩
   ·have z3:(n != n')=false:=by simpa using b3
    clear b3
    by_cases b4:(s.toList==s'.toList)=false
    ·have z4:=b4
     have HF:Hid (res=false):=by
      show _=_
      rw [← HR.out,z1,HX2.out,z3,z4];rfl
     go_wp2_with fail
     go_ret
     exact ⟨by rw [HF.out];rfl,HB1.out⟩
    ·have z4:(s.toList==s'.toList)=true:=by simpa using b4
     clear b4
     by_cases b5:((n1:Int) != (n2:Int))=true
     ·have z5:=b5
      have HF:Hid (res=false):=by
       show _=_
       rw [← HR.out,z1,HX2.out,z3,z4,z5];rfl
      go_wp2_with fail
      go_ret
      exact ⟨by rw [HF.out];rfl,HB1.out⟩
     ·have z5:((n1:Int) != (n2:Int))=false:=by simpa using b5
      clear b5
      by_cases b6:((m1:Int) != (m2:Int))=true
      ·have z6:=b6
       have HF:Hid (res=false):=by
        show _=_
        rw [← HR.out,z1,HX2.out,z3,z4,z5,z6];rfl
       go_wp2_with fail
       go_ret
       exact ⟨by rw [HF.out];rfl,HB1.out⟩
      ·have z6:((m1:Int) != (m2:Int))=false:=by simpa using b6
       clear b6
       have HR2:Hid ((Zck ks ks'&&alikeL ts ts')=res):=by
        show _=_
        rw [← HR.out,z1,HX2.out,z3,z4,z5,z6];rfl
       have HEQ:Hid (n1=n2∧m1=m2):=by
        have a:=z5
        have b:=z6
        simp at a b
        exact ⟨by omega,by omega⟩
       go_wp2_with fail
       clear HR z1 HX2 z3 z4 z5 z6
       obtain ⟨rfl,rfl⟩:=HEQ.out
       clear HEQ q0 q1 q2 q3 w0 w1 w2 w3
       go_loopw [5] (fun i wr=>∃ j:Nat,j≤n1∧i=.int .i64 j∧Below W1.heap.size W1 wr∧(Zck (ks.drop j) (ks'.drop j)&&alikeL ts ts')=res) (fun i _=>n1 - (intOf i).toNat)
       case atStart=>exact ⟨0,Nat.zero_le _,rfl,Below.refl _ _,HR2.out⟩
       case round =>
        clear q4 q5 w4 w5
        obtain ⟨j,hj,rfl,hbr,hrs⟩:=hrel
        have HBR:=Zb hbr
        have HRS:=Zb hrs
        have hwz:w.heap.size+1<wr.heap.size:=by
         have:=HZ.out
         have:=hbr.size
         omega
        obtain ⟨hbw,g,h⟩:=HX.out wr hbr
        have q4:=g 4 _ rfl
        have w4:=h 4 _ rfl
        have q5:=g 5 _ rfl
        have HBW:=Zb hbw
        clear hbr hrs g h hbw
        by_cases hlt:j<n1
        ·have hlt':(j:Int)<n1:=by omega
         obtain ⟨xk,hx⟩:∃ q,ks[j]?=some q:=⟨_,List.getElem?_eq_getElem (by have:=HN1.out;omega)⟩
         obtain ⟨yk,hy⟩:∃ q,ks'[j]?=some q:=⟨_,List.getElem?_eq_getElem (by have:=HN2.out;omega)⟩
         obtain ⟨bl,off,rfl,hbl,hc⟩:=(HKK.out.1.below (HBW.out.mono hB)).resolve_left (by intro e;rw [e] at hx;simp at hx)
         obtain ⟨bl2,off2,rfl,hbl2,hc2⟩:=(HKK.out.2.below (HBW.out.mono hB)).resolve_left (by intro e;rw [e] at hy;simp at hy)
         have cx:=(hc j (by have:=HN1.out;omega)).1
         have cy:=(hc2 j (by have:=HN2.out;omega)).1
         rw [List.getD_eq_getElem?_getD,hx] at cx
         rw [List.getD_eq_getElem?_getD,hy] at cy
         simp only [Option.getD_some] at cx cy
         have hbw:bl<wr.heap.size:=by omega
         have hbw2:bl2<wr.heap.size:=by omega
         have HE:Hid (res=(((xk.toList==yk.toList)&&Zck (ks.drop (j+1)) (ks'.drop (j+1)))&&alikeL ts ts')):=by
          show _=_
          rw [← HRS.out,Zme hx hy]
         have HC:Hid (∀ W,Below wr.heap.size wr W→W.cell? ⟨w.heap.size,4,none⟩=some (.slice (some ⟨bl,off,none⟩) n1 kc)∧W.cell? ⟨w.heap.size+1,4,none⟩=some (.slice (some ⟨bl2,off2,none⟩) n1 kc2)∧W.cell? ⟨bl,off+j,none⟩=some (.string xk)∧W.cell? ⟨bl2,off2+j,none⟩=some (.string yk)):=fun W hb =>
          ⟨(hb.cell (p:=⟨w.heap.size,4,none⟩) (by show w.heap.size<_;omega)).trans q4,(hb.cell (p:=⟨w.heap.size+1,4,none⟩) hwz).trans w4,(hb.cell (p:=⟨bl,off+j,none⟩) hbw).trans cx,(hb.cell (p:=⟨bl2,off2+j,none⟩) hbw2).trans cy⟩
         clear hx hy hc hc2
         go_upto_region 6 with fail
         clear cx cy q4 w4 q5
         show (Code.region 6 RK6 true).wp _ _ _ _
         obtain ⟨b,hb⟩:∃ b,(xk.toList==yk.toList)=b:=⟨_,rfl⟩
         cases b with
         | false =>
          have HA1:Hid ((!(xk.toList==yk.toList))=true):=by
           show _=_
           rw [hb];rfl
          have HA2:=Zb hb
          clear hb
          refine Zxy w.heap.size (w.heap.size+1) bl off n1 kc bl2 off2 n1 kc2 j xk yk _ _ _ rfl ⟨rfl,rfl,rfl⟩ ?_ ?_
          ·intro W hW
           exact ⟨(HC.out W hW).1,hlt,by omega,(HC.out W hW).2.2.1,(HC.out W hW).2.1,hlt,by omega,(HC.out W hW).2.2.2,HA1.out⟩
          intro c W3 hS hB3 e68
          rw [Zs hS [58,59,60,61,62,63,64,65,66,67,68] (by kernel_rfl)]
          simp only [List.foldl_cons,List.foldl_nil,List.setIfInBounds_toArray,List.set_cons_succ,List.set_cons_zero,show Zcs c 68=_ from e68]
          clear e68 hS
          have HB3:=Zb (Za HBR.out hB3)
          clear hB3
          have HF:Hid (res=false):=by
           show _=_
           rw [HE.out,HA2.out];rfl
          go_wp2_with fail
          go_ret
          exact ⟨by rw [HF.out];rfl,Za HB1.out HB3.out⟩
         | true =>
          have HA1:Hid ((!(xk.toList==yk.toList))=false):=by
           show _=_
           rw [hb];rfl
          have HA2:=Zb hb
          clear hb
          refine Zxz w.heap.size (w.heap.size+1) bl off n1 kc bl2 off2 n1 kc2 j xk yk _ _ _ rfl ⟨rfl,rfl,rfl⟩ ?_ ?_
          ·intro W hW
           exact ⟨(HC.out W hW).1,hlt,by omega,(HC.out W hW).2.2.1,(HC.out W hW).2.1,hlt,by omega,(HC.out W hW).2.2.2,HA1.out⟩
          intro c W3 hS hB3 e68
          rw [Zs hS [58,59,60,61,62,63,64,65,66,67,68] (by kernel_rfl)]
          simp only [List.foldl_cons,List.foldl_nil,List.setIfInBounds_toArray,List.set_cons_succ,List.set_cons_zero,show Zcs c 68=_ from e68]
          clear e68 hS
          have HB3:=Zb (Za HBR.out hB3)
          clear hB3
          have HN2:Hid ((Zck (ks.drop (j+1)) (ks'.drop (j+1))&&alikeL ts ts')=res):=by
           show _=_
           rw [HE.out,HA2.out];rfl
          go_wp2_with fail
          go_roundw
          case rel=>exact ⟨j+1,by omega,by go_num,HB3.out,HN2.out⟩
          case measure=>simp [intOf];omega
        ·have HR3:Hid (alikeL ts ts'=res):=by
          show _=_
          rw [← HRS.out,List.drop_of_length_le (by have:=HN1.out;omega)];rfl
         have hlt':¬ (j:Int)<n1:=by omega
         have HBA:=HBR
         go_wp2_with fail
         clear hlt hlt' HRS hj HBR q4 w4 q5 hwz HBW
         go_loopw [6] (fun i wr=>∃ j:Nat,j≤m1∧i=.int .i64 j∧Below W1.heap.size W1 wr∧alikeL (ts.drop j) (ts'.drop j)=res) (fun i _=>m1 - (intOf i).toNat)
         case atStart=>exact ⟨0,Nat.zero_le _,rfl,HBA.out,HR3.out⟩
         case round =>
          clear HBA
          obtain ⟨j,hj,rfl,hbr,hrs⟩:=hrel
          have HBR:=Zb hbr
          have HRS:=Zb hrs
          have hwz:w.heap.size+1<wr.heap.size:=by
           have:=HZ.out
           have:=hbr.size
           omega
          obtain ⟨hbw,g,h⟩:=HX.out wr hbr
          have q5:=g 5 _ rfl
          have w5:=h 5 _ rfl
          have HBW:=Zb hbw
          clear hbr hrs g h hbw
          by_cases hlt:j<m1
          ·have hlt':(j:Int)<m1:=by omega
           obtain ⟨⟨p0,p1,p2,p3,p4,p5⟩,hx⟩:∃ t,ts[j]?=some t:=⟨_,List.getElem?_eq_getElem (by have:=HM1.out;omega)⟩
           obtain ⟨⟨r0,r1,r2,r3,r4,r5⟩,hy⟩:∃ t,ts'[j]?=some t:=⟨_,List.getElem?_eq_getElem (by have:=HM2.out;omega)⟩
           obtain ⟨bl,off,rfl,hbl,hkk⟩:=HTT.out.1.resolve_left (by intro e;rw [e] at hx;simp at hx)
           obtain ⟨bl2,off2,rfl,hbl2,hkk2⟩:=HTT.out.2.resolve_left (by intro e;rw [e] at hy;simp at hy)
           obtain ⟨ja,jc,jl,jd,⟨c0,c1,c2,c3,c4,c5⟩,hlx⟩:=(hkk.below (HBW.out.mono hB) hbl).cells hx
           obtain ⟨ja2,jc2,jl2,jd2,⟨d0,d1,d2,d3,d4,d5⟩,hly⟩:=(hkk2.below (HBW.out.mono hB) hbl2).cells hy
           have hbw:bl<wr.heap.size:=by omega
           have hbw2:bl2<wr.heap.size:=by omega
           have HK1:=Zb (fun W (hb:Below wr.heap.size wr W)=>HIH.out _ (List.mem_of_getElem? hx) B _ _ (.mk r0 r1 r2 r3 r4 r5) W (by have:=hb.size;omega) (hlx.below (hb.mono (by omega))) (hly.below (hb.mono (by omega))))
           obtain ⟨b,hb⟩:∃ b,Zec (.mk p0 p1 p2 p3 p4 p5) (.mk r0 r1 r2 r3 r4 r5)=b:=⟨_,rfl⟩
           rw [hb] at HK1
           have HE:Hid (res=(b&&alikeL (ts.drop (j+1)) (ts'.drop (j+1)))):=by
            show _=_
            rw [← HRS.out,Zun hx hy,hb]
           have HC:Hid (∀ W,Below wr.heap.size wr W→W.cell? ⟨w.heap.size,5,none⟩=some (.slice (some ⟨bl,off,none⟩) m1 lc)∧W.cell? ⟨w.heap.size+1,5,none⟩=some (.slice (some ⟨bl2,off2,none⟩) m1 lc2)):=fun W hb =>
            ⟨(hb.cell (p:=⟨w.heap.size,5,none⟩) (by show w.heap.size<_;omega)).trans q5,(hb.cell (p:=⟨w.heap.size+1,5,none⟩) hwz).trans w5⟩
           clear hx hy hkk hkk2 hlx hly hb
           go_upto_region 11 with fail
           clear q5 w5
           show (Code.region 11 Jbc true).wp _ _ _ _
           cases b with
           | false =>
            refine Zul w.heap.size (w.heap.size+1) bl off m1 lc bl2 off2 m1 lc2 j (.int .i64 p0) (.bool p1) (.int .i64 p2) (.string p3) (.slice ja p4.length jc) (.slice jl p5.length jd) (.int .i64 r0) (.bool r1) (.int .i64 r2) (.string r3) (.slice ja2 r4.length jc2) (.slice jl2 r5.length jd2) _ _ _ rfl ⟨rfl,rfl,rfl⟩ ?_ ?_
            ·intro W hW
             exact ⟨(HC.out W hW).1,hlt,by omega,(hW.cell (p:=⟨bl,off+j*6,none⟩) hbw).trans c0,(hW.cell (p:=⟨bl,off+j*6+1,none⟩) hbw).trans c1,(hW.cell (p:=⟨bl,off+j*6+2,none⟩) hbw).trans c2,(hW.cell (p:=⟨bl,off+j*6+3,none⟩) hbw).trans c3,(hW.cell (p:=⟨bl,off+j*6+4,none⟩) hbw).trans c4,(hW.cell (p:=⟨bl,off+j*6+5,none⟩) hbw).trans c5,(HC.out W hW).2,hlt,by omega,(hW.cell (p:=⟨bl2,off2+j*6,none⟩) hbw2).trans d0,(hW.cell (p:=⟨bl2,off2+j*6+1,none⟩) hbw2).trans d1,(hW.cell (p:=⟨bl2,off2+j*6+2,none⟩) hbw2).trans d2,(hW.cell (p:=⟨bl2,off2+j*6+3,none⟩) hbw2).trans d3,(hW.cell (p:=⟨bl2,off2+j*6+4,none⟩) hbw2).trans d4,(hW.cell (p:=⟨bl2,off2+j*6+5,none⟩) hbw2).trans d5,HK1.out W hW⟩
            intro c W3 hS hB3 e87
            rw [Zs hS [76,77,78,79,80,81,82,83,84,85,86,87] (by kernel_rfl)]
            simp only [List.foldl_cons,List.foldl_nil,List.setIfInBounds_toArray,List.set_cons_succ,List.set_cons_zero,show Zcs c 87=_ from e87]
            clear e87 hS
            have HB3:=Zb (Za HBR.out hB3)
            clear hB3
            have HF:Hid (res=false):=by
             show _=_
             rw [HE.out];rfl
            go_wp2_with fail
            go_ret
            exact ⟨by rw [HF.out];rfl,Za HB1.out HB3.out⟩
           | true =>
            refine Zum w.heap.size (w.heap.size+1) bl off m1 lc bl2 off2 m1 lc2 j (.int .i64 p0) (.bool p1) (.int .i64 p2) (.string p3) (.slice ja p4.length jc) (.slice jl p5.length jd) (.int .i64 r0) (.bool r1) (.int .i64 r2) (.string r3) (.slice ja2 r4.length jc2) (.slice jl2 r5.length jd2) _ _ _ rfl ⟨rfl,rfl,rfl⟩ ?_ ?_
            ·intro W hW
             exact ⟨(HC.out W hW).1,hlt,by omega,(hW.cell (p:=⟨bl,off+j*6,none⟩) hbw).trans c0,(hW.cell (p:=⟨bl,off+j*6+1,none⟩) hbw).trans c1,(hW.cell (p:=⟨bl,off+j*6+2,none⟩) hbw).trans c2,(hW.cell (p:=⟨bl,off+j*6+3,none⟩) hbw).trans c3,(hW.cell (p:=⟨bl,off+j*6+4,none⟩) hbw).trans c4,(hW.cell (p:=⟨bl,off+j*6+5,none⟩) hbw).trans c5,(HC.out W hW).2,hlt,by omega,(hW.cell (p:=⟨bl2,off2+j*6,none⟩) hbw2).trans d0,(hW.cell (p:=⟨bl2,off2+j*6+1,none⟩) hbw2).trans d1,(hW.cell (p:=⟨bl2,off2+j*6+2,none⟩) hbw2).trans d2,(hW.cell (p:=⟨bl2,off2+j*6+3,none⟩) hbw2).trans d3,(hW.cell (p:=⟨bl2,off2+j*6+4,none⟩) hbw2).trans d4,(hW.cell (p:=⟨bl2,off2+j*6+5,none⟩) hbw2).trans d5,HK1.out W hW⟩
            intro c W3 hS hB3 e87
            rw [Zs hS [76,77,78,79,80,81,82,83,84,85,86,87] (by kernel_rfl)]
            simp only [List.foldl_cons,List.foldl_nil,List.setIfInBounds_toArray,List.set_cons_succ,List.set_cons_zero,show Zcs c 87=_ from e87]
            clear e87 hS
            have HB3:=Zb (Za HBR.out hB3)
            clear hB3
            have HN2:Hid (alikeL (ts.drop (j+1)) (ts'.drop (j+1))=res):=by
             show _=_
             rw [HE.out];rfl
            go_wp2_with fail
            go_roundw
            case rel=>exact ⟨j+1,by omega,by go_num,HB3.out,HN2.out⟩
            case measure=>simp [intOf];omega
          ·have HF:Hid (res=true):=by
            show _=_
            rw [← HRS.out,List.drop_of_length_le (by have:=HM1.out;omega)];rfl
           have hlt':¬ (j:Int)<m1:=by omega
           go_wp2_with fail
           go_ret
           exact ⟨by rw [HF.out];rfl,HBW.out⟩
end
