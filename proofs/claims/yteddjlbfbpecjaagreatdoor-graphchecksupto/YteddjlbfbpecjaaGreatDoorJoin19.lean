/- A graph of one node without labels and properties is copied. Two statements of tell, in whatever order their operations are done. A row that is filled thing by thing, some cells each. Copies of properties, any many. -/
import Derived.Test.YteddjlbfbpecjaaGreatDoorJoin13
import Derived.Test.YteddjlbfbpecjaaGreatDoorJoin18
import Derived.Test.YteddjlbfbpecjaaGreatDoorJoin7
import Derived.Test.YteddjlbfbpecjaaGreatDoorJoin5
namespace Go.Proofs.YteddjlbfbpecjaaGreatDoor
open Go.RowKit Go.Shelf
set_option linter.unusedVariables false
set_option linter.unusedSimpArgs false
attribute [local go_sem] Oper.semAt_some
theorem Tryz.info47  : (Tryz.prog.info? 47).map (fun i=>(i.zero,i.size,i.bytes))=some (some (.agg #[.int .i64 0,.slice none 0 0,.slice none 0 0]),3,56):=by kernel_rfl
end Go.Proofs.YteddjlbfbpecjaaGreatDoor

namespace Go.Proofs.YteddjlbfbpecjaaGreatDoor
open Go.RowKit Go.Shelf Go.WideShapes
set_option maxRecDepth 100000
set_option linter.unusedVariables false
set_option linter.unusedSimpArgs false
noncomputable def RTL1  : Array Oper:=regionAt Tryz.f52 1
def LTL1  : List Sig:=[⟨8,.move (.tmp 0),153,none⟩,⟨9,.nilCheck (.tmp 8),0,none⟩,⟨10,.fieldAddr 71 (.tmp 9) 2,0,none⟩,⟨11,.load 2 (.tmp 10),2,none⟩,⟨12,.move (.tmp 0),153,none⟩,⟨13,.nilCheck (.tmp 12),0,none⟩,⟨14,.fieldAddr 71 (.tmp 13) 3,0,none⟩,⟨15,.load 2 (.tmp 14),2,none⟩,⟨16,.build 25 #[(2,.tmp 11),(3,.tmp 15)],25,none⟩,⟨3,.alloc 25,0,none⟩]
theorem hLTL1  : (sigsOf RTL1).take LTL1.length=LTL1.map some:=by kernel_rfl
def ancTL1 (i:Nat):List Nat:=nth [] [[],[0],[1],[2],[],[4],[5],[6],[3,7],[],[0,1,2,3,4,5,6,7,8,9]] i
def factsTL1 (p:GP) (nn nr:Int) (B0:Nat):List (Value→World→Prop) :=
 [eqv (.pointer (some ⟨p.g,0,none⟩)),eqv (.pointer (some ⟨p.g,0,none⟩)),eqv (.pointer (some ⟨p.g,2,none⟩)),eqv (.int .i64 nn),eqv (.pointer (some ⟨p.g,0,none⟩)),eqv (.pointer (some ⟨p.g,0,none⟩)),eqv (.pointer (some ⟨p.g,3,none⟩)),eqv (.int .i64 nr),eqv (.agg #[.slice none 0 0,.slice none 0 0,.int .i64 nn,.int .i64 nr]),fun v w=>∃ X,v=.pointer (some ⟨X,0,none⟩)∧B0≤X∧Rec w X #[.slice none 0 0,.slice none 0 0,.int .i64 0,.int .i64 0] 25]
structure BaseTL1 (p:GP) (nn nr:Int) (B0:Nat) (c:Act):Prop where
 t0:c.eval (.tmp 0)=.pointer (some ⟨p.g,0,none⟩)
structure WorldTL1 (p:GP) (nn nr:Int) (B0:Nat) (w:World):Prop where
 c2:w.cell? ⟨p.g,2,none⟩=some (.int .i64 nn)
 c3:w.cell? ⟨p.g,3,none⟩=some (.int .i64 nr)
 b0:B0≤w.heap.size
theorem oTL1_9 (p:GP) (nn nr:Int) (B0:Nat) (Q:Exit→Act→World→Prop) (c:Act) (w:World) (hb:BaseTL1 p nn nr B0 c) (hW:WorldTL1 p nn nr B0 w) (hF:∀ q0 ∈ ancTL1 9,factsAt (factsTL1 p nn nr B0) q0 (val RTL1 c q0) w) :
  Does Tryz.prog RTL1 Q (factsAt (factsTL1 p nn nr B0)) 9 c w:=by
 have ho:RTL1[9]?=some (⟨some 3,.alloc 25,0, "graph.go:126",#[],none⟩:Oper):=by kernel_rfl
 have hw:Region.wanted (⟨some 3,.alloc 25,0, "graph.go:126",#[],none⟩:Oper) (yielded RTL1 c.tmps)=true:=want_none rfl
 have ec:=evc c
 have ef:=evf c
 refine does_value ho hw (v:=.pointer (some ⟨w.heap.size,0,none⟩)) (w':=w.alloc (.cells #[.slice none 0 0,.slice none 0 0,.int .i64 0,.int .i64 0] 25)) ?_ ⟨w.heap.size,rfl,hW.b0,rec_new _ _ _⟩ ((Below.refl _ _).alloc (Nat.le_refl _) _)
 generalize c.eval=ρ at *
 clear hF hb hW hw ho
 go_simp
theorem stableTL1 (p:GP) (nn nr:Int) (B0:Nat):∀ pr ∈ factsTL1 p nn nr B0,Stable pr:=by
 unfold factsTL1
 iterate 10 (first | refine List.forall_mem_cons.2 ⟨eqv_stable _,?_⟩ | refine List.forall_mem_cons.2 ⟨fun v w w' ⟨X,h,hX,hr⟩ hb=>⟨X,h,hX,hr.below hb hr.lt⟩,?_⟩)
 exact List.forall_mem_nil _
set_option maxHeartbeats 4000000 in
theorem uniTL1 (p:GP) (nn nr:Int) (B0:Nat) (Q:Exit→Act→World→Prop):∀ i,i<10→(fun i=>i ∉ ([9]:List Nat)→∀ c w,BaseTL1 p nn nr B0 c→WorldTL1 p nn nr B0 w→(∀ q0 ∈ ancTL1 i,factsAt (factsTL1 p nn nr B0) q0 (val RTL1 c q0) w)→Does Tryz.prog RTL1 Q (factsAt (factsTL1 p nn nr B0)) i c w) i:=by
 iterate 10 (refine below_succ ?_ (by
  intro hn c w hb hW hF
  first
  | exact absurd (by decide) hn
  | (have hEq:=factsL_of hLTL1 (by decide) hF
     refine does_told hLTL1 (by decide) rfl (fun _=>rfl) ?_
     obtain ⟨t0⟩:=hb
     obtain ⟨c2,c3,b0⟩:=hW
     have ec:=evc c
     have ef:=evf c
     dsimp only [ancTL1,LTL1,factsTL1,nth,FactsL,look,eqv] at hEq ⊢
     refine .inl fun pos af=>?_
     clear hF hn
     dsimp only [Sig.oper]
     generalize c.eval=ρ at *
     go_simp
     done)))
 exact below_zero
theorem allTL1 (p:GP) (nn nr:Int) (B0:Nat) (Q:Exit→Act→World→Prop):∀ i,i<10→(fun i=>∀ c w,BaseTL1 p nn nr B0 c→WorldTL1 p nn nr B0 w→(∀ q0 ∈ ancTL1 i,factsAt (factsTL1 p nn nr B0) q0 (val RTL1 c q0) w)→Does Tryz.prog RTL1 Q (factsAt (factsTL1 p nn nr B0)) i c w) i:=by
 intro i hi
 by_cases h9:i=9
 ·subst h9;exact fun c w=>oTL1_9 p nn nr B0 Q c w
 exact uniTL1 p nn nr B0 Q i hi (by simp [*])
theorem regionTL1 (p:GP) (nn nr:Int) (B0:Nat) (Q:Exit→Act→World→Prop) (base:Act) (w0:World) (hsz:base.tmps.size=62) (hb:BaseTL1 p nn nr B0 base)
  (hW:∀ w,Below w0.heap.size w0 w→WorldTL1 p nn nr B0 w) (hL:∀ c w,Same RTL1 base c→Below w0.heap.size w0 w→c.eval (.tmp 16)=.agg #[.slice none 0 0,.slice none 0 0,.int .i64 nn,.int .i64 nr]→(fun v w=>∃ X,v=.pointer (some ⟨X,0,none⟩)∧B0≤X∧Rec w X #[.slice none 0 0,.slice none 0 0,.int .i64 0,.int .i64 0] 25) (c.eval (.tmp 3)) w→∃ w',(execOp c.eval (⟨none,.store 25 (.tmp 3) (.tmp 16),0, "graph.go:126",#[⟨9,.data⟩,⟨8,.data⟩,⟨0,.phase⟩,⟨1,.phase⟩,⟨2,.phase⟩,⟨3,.phase⟩,⟨4,.phase⟩,⟨5,.phase⟩,⟨6,.phase⟩,⟨7,.phase⟩,⟨8,.phase⟩,⟨9,.phase⟩],none⟩:Oper)).run Tryz.prog w=.ok .skip w'∧Q .normal c w'):(Code.region 1 RTL1 true).wp Tryz.prog Q base w0:=by
 have hall:(List.range 10).all (fun i=>(slotOf RTL1 i).isSome)=true:=by kernel_rfl
 refine facts_last (A:=ancTL1) (F:=factsAt (factsTL1 p nn nr B0)) 10 (by kernel_rfl) (by kernel_rfl) (by kernel_rfl) (by rw [hsz];kernel_rfl) ?_ (by decide) (fun i v w w'=>factsAt_stable (stableTL1 p nn nr B0) i v w w') ?_ ?_
 ·exact fun i hi=>Option.isSome_iff_exists.1 (List.all_eq_true.1 hall i (List.mem_range.2 hi))
 ·intro i hi c w hS hB hF
  exact allTL1 p nn nr B0 Q i hi c w ⟨(same_eval hS (by kernel_rfl)).trans hb.t0⟩ (hW w hB) hF
 ·intro c w hS hB hF
  obtain ⟨w',h1,h2⟩:=hL c w hS hB (fact_at (p:=eqv (.agg #[.slice none 0 0,.slice none 0 0,.int .i64 nn,.int .i64 nr])) (by kernel_rfl) rfl (hF 8 (by omega))) (fact_at (p:=fun v w=>∃ X,v=.pointer (some ⟨X,0,none⟩)∧B0≤X∧Rec w X #[.slice none 0 0,.slice none 0 0,.int .i64 0,.int .i64 0] 25) (by kernel_rfl) rfl (hF 9 (by omega)))
  exact last_skip (by kernel_rfl) (want_none rfl) h1 h2
end Go.Proofs.YteddjlbfbpecjaaGreatDoor

namespace Go.Proofs.YteddjlbfbpecjaaGreatDoor
open Go.RowKit Go.Shelf
set_option linter.unusedVariables false
set_option linter.unusedSimpArgs false
def RoomK (k:Nat) (w:World) (g n:Nat):Prop:=∀ o,o<n*k→(w.cell? ⟨g,o,none⟩).isSome=true∧w.frozen? ⟨g,o,none⟩=false
theorem RoomK.below {k:Nat} {w w':World} {g n:Nat} (h:RoomK k w g n) (hb:Below w.heap.size w w') (hg:g<w.heap.size):RoomK k w' g n:=fun o ho=>by
 rw [hb.cell (p:=⟨g,o,none⟩) hg,hb.frozen (p:=⟨g,o,none⟩) hg];exact h o ho
theorem cells_frozen (b:Nat) (a:Addr):∀ (vs:List Value) (o:Nat) (w:World),(w.setCells b o vs).frozen? a=w.frozen? a
 | [],o,w=>rfl
 | v::r,o,w=>by rw [World.setCells,cells_frozen b a r,World.frozen?_setCell]
theorem cells_size (b:Nat):∀ (vs:List Value) (o:Nat) (w:World),(w.setCells b o vs).heap.size=w.heap.size
 | [],o,w=>rfl
 | v::r,o,w=>by rw [World.setCells,cells_size b r];simp
theorem cells_below {B b:Nat} {w:World} (hb:B≤b):∀ (vs:List Value) (o:Nat) (w1:World),Below B w w1→Below B w (w1.setCells b o vs)
 | [],o,w1,h=>h
 | v::r,o,w1,h=>by rw [World.setCells];exact cells_below hb r _ _ (h.setCell (p:=⟨b,o,none⟩) hb v)
theorem cells_out {b o b' o':Nat} {vs:List Value} {w:World} (h:b'=b→o'<o∨o+vs.length≤o'):(w.setCells b o vs).cell? ⟨b',o',none⟩=w.cell? ⟨b',o',none⟩ :=
 World.cell?_setCells_out b _ o w ⟨b',o',none⟩ (fun h1 _=>h h1)
theorem cells_in {b o:Nat} {vs:List Value} {w:World} (h:∀ j,j<vs.length→(w.cell? ⟨b,o+j,none⟩).isSome=true) {q:Nat} {v:Value} (hq:vs[q]?=some v):(w.setCells b o vs).cell? ⟨b,o+q,none⟩=some v:=by
 obtain ⟨hl,rfl⟩:=List.getElem?_eq_some_iff.1 hq
 exact World.cell?_setCells_in b vs o w h q hl
theorem RoomK.puts {k:Nat} {w:World} {g n o:Nat} (h:RoomK k w g n) (vs:List Value) (ho:o+vs.length≤n*k):RoomK k (w.setCells g o vs) g n:=fun p hp=>by
 rw [cells_frozen]
 refine ⟨?_,(h p hp).2⟩
 by_cases hin:p<o∨o+vs.length≤p
 ·rw [cells_out (fun _=>hin)];exact (h p hp).1
 ·obtain ⟨q,rfl⟩:∃ q,p=o+q:=⟨p - o,by omega⟩
  rw [cells_in (fun j hj=>(h (o+j) (by omega)).1) (List.getElem?_eq_getElem (by omega))];rfl
structure Kept {α:Type} (lo:Nat) (Is:Nat→World→List Value→α→Prop):Prop where
 keep:∀ {B:Nat} {w w':World} {cs:List Value} {x:α},KeepsF lo B w w'→Is B w cs x→Is B w' cs x
 mono:∀ {B B':Nat} {w:World} {cs:List Value} {x:α},B≤B'→Is B w cs x→Is B' w cs x
def Filled {α:Type} (k g:Nat) (Is:Nat→World→List Value→α→Prop) (B:Nat) (w:World) (xs:List α):Prop :=
 ∀ i x,xs[i]?=some x→∃ cs,cs.length=k∧(∀ q v,cs[q]?=some v→w.cell? ⟨g,i*k+q,none⟩=some v)∧Is B w cs x
theorem filled_none {α:Type} {k g:Nat} {Is:Nat→World→List Value→α→Prop} {B:Nat} {w:World}:Filled k g Is B w []:=fun i x h=>by simp at h
theorem Filled.keep {α:Type} {k g lo:Nat} {Is:Nat→World→List Value→α→Prop} (hK:Kept (g+1) Is) {B:Nat} {w w':World} {xs:List α} (h:Filled k g Is B w xs) (hk:KeepsF lo B w w') (hlo:lo≤g) (hg:g<B):Filled k g Is B w' xs:=fun i x hx=>by
 obtain ⟨cs,hl,hc,hi⟩:=h i x hx
 exact ⟨cs,hl,fun q v hq=>(hk g _ hlo hg).1.trans (hc q v hq),hK.keep (fun b o h1 h2=>hk b o (by omega) h2) hi⟩
theorem Filled.mono {α:Type} {k g:Nat} {Is:Nat→World→List Value→α→Prop} (hK:Kept (g+1) Is) {B B':Nat} {w:World} {xs:List α} (h:Filled k g Is B w xs) (hB:B≤B'):Filled k g Is B' w xs:=fun i x hx=>by
 obtain ⟨cs,hl,hc,hi⟩:=h i x hx
 exact ⟨cs,hl,hc,hK.mono hB hi⟩
theorem RoomK.keep {k g n lo B:Nat} {w w':World} (h:RoomK k w g n) (hk:KeepsF lo B w w') (hlo:lo≤g) (hg:g<B):RoomK k w' g n:=fun o ho=>by
 rw [(hk g o hlo hg).1,(hk g o hlo hg).2];exact h o ho
theorem filled_step {α:Type} {k g j n:Nat} {Is:Nat→World→List Value→α→Prop} (hK:Kept (g+1) Is) {xs:List α} {t:α} {wr w2:World} (hx:xs[j]?=some t) (hg:g<wr.heap.size) (hb:Below wr.heap.size wr w2) (hf:Filled k g Is wr.heap.size wr (xs.take j)) {cs:List Value} (hl:cs.length=k)
  (hv:Is w2.heap.size w2 cs t) (hr:RoomK k w2 g n) (hj:j<n):Filled k g Is w2.heap.size (w2.setCells g (j*k) cs) (xs.take (j+1)):=by
 have hjl:j<xs.length:=(List.getElem?_eq_some_iff.1 hx).1
 have hkp:∀ B,KeepsF (g+1) B w2 (w2.setCells g (j*k) cs):=fun B b o h1 _=>⟨cells_out (fun e=>by omega),cells_frozen _ _ _ _ _⟩
 have hjk:j*k+k≤n*k:=by
  have:=Nat.mul_le_mul_right k (show j+1≤n by omega)
  rw [Nat.add_mul] at this;omega
 intro i u hu
 rw [List.take_add_one,hx] at hu
 by_cases hij:i=j
 ·subst hij
  have:u=t:=by
   rw [List.getElem?_append_right (by simp;omega)] at hu
   simp [show min i xs.length=i by omega] at hu
   exact hu.symm
  subst this
  exact ⟨cs,hl,fun q v hq=>cells_in (fun p hp=>(hr _ (by omega)).1) hq,hK.keep (hkp _) hv⟩
 ·have hil:i<j:=by
   have h:=(List.getElem?_eq_some_iff.1 hu).1
   simp at h;omega
  rw [List.getElem?_append_left (by simp;omega)] at hu
  obtain ⟨ds,hd,hc,hi⟩:=hf i u hu
  refine ⟨ds,hd,fun q v hq=>?_,hK.keep (hkp _) (hK.mono hb.size (hK.keep (keeps_belowF hb (Nat.le_refl _)) hi))⟩
  have hq2:=(List.getElem?_eq_some_iff.1 hq).1
  have hik:i*k+k≤j*k:=by
   have:=Nat.mul_le_mul_right k (show i+1≤j by omega)
   rw [Nat.add_mul] at this;omega
  rw [cells_out (fun _=>.inl (by omega)),hb.cell (p:=⟨g,i*k+q,none⟩) hg]
  exact hc q v hq
end Go.Proofs.YteddjlbfbpecjaaGreatDoor

namespace Go.Proofs.YteddjlbfbpecjaaGreatDoor
open Go.RowKit Go.Shelf
set_option linter.unusedVariables false
set_option linter.unusedSimpArgs false
attribute [local go_sem] Oper.semAt_some
def PropIs (lo B:Nat) (w:World) (cs:List Value) (q:ByteArray × Tree):Prop:=∃ v0 v1 v2 v3 v4 v5,cs=[.string q.1,v0,v1,v2,v3,v4,v5]∧q.1.size≤maxLen∧LiesF lo B w (.agg #[v0,v1,v2,v3,v4,v5]) q.2
theorem prop_kept (lo:Nat):Kept lo (PropIs lo) where
 keep:=fun hk ⟨v0,v1,v2,v3,v4,v5,e,hs,hv⟩=>⟨v0,v1,v2,v3,v4,v5,e,hs,hv.keep hk⟩
 mono:=fun hB ⟨v0,v1,v2,v3,v4,v5,e,hs,hv⟩=>⟨v0,v1,v2,v3,v4,v5,e,hs,hv.mono (Nat.le_refl _) hB⟩
def PropsF (lo B:Nat) (w:World) (v:Value) (ps:List (ByteArray × Tree)):Prop :=
 ∃ pa pc,v=.slice pa ps.length pc∧ps.length≤pc∧pc≤9223372036854775807∧(ps=[]∨∃ g,pa=some ⟨g,0,none⟩∧lo≤g∧g<B∧RoomK 7 w g ps.length∧Filled 7 g (PropIs (g+1)) B w ps)
theorem PropsF.lie {lo B:Nat} {w:World} {v:Value} {ps:List (ByteArray × Tree)} (h:PropsF lo B w v ps):PropsLie B w v ps:=by
 obtain ⟨pa,pc,e,h1,h2,h3⟩:=h
 refine ⟨pa,pc,e,h1,h2,h3.imp id fun ⟨g,e,hl,hg,_,hf⟩=>⟨g,0,e,hg,fun i q hq=>?_⟩⟩
 obtain ⟨cs,_,hc,v0,v1,v2,v3,v4,v5,rfl,hs,hv⟩:=hf i q hq
 rw [Nat.zero_add]
 exact ⟨hc 0 _ rfl,hs,v0,v1,v2,v3,v4,v5,⟨hc 1 _ rfl,hc 2 _ rfl,hc 3 _ rfl,hc 4 _ rfl,hc 5 _ rfl,hc 6 _ rfl⟩,hv.lie⟩
theorem PropsF.keep {lo B:Nat} {w w':World} {v:Value} {ps:List (ByteArray × Tree)} (hk:KeepsF lo B w w') (h:PropsF lo B w v ps):PropsF lo B w' v ps:=by
 obtain ⟨pa,pc,e,h1,h2,h3⟩:=h
 exact ⟨pa,pc,e,h1,h2,h3.imp id fun ⟨g,e,hl,hg,hr,hf⟩=>⟨g,e,hl,hg,hr.keep hk hl hg,hf.keep (prop_kept _) hk hl hg⟩⟩
theorem PropsF.mono {lo lo' B B':Nat} {w:World} {v:Value} {ps:List (ByteArray × Tree)} (h1:lo'≤lo) (h2:B≤B') (h:PropsF lo B w v ps):PropsF lo' B' w v ps:=by
 obtain ⟨pa,pc,e,g1,g2,h3⟩:=h
 exact ⟨pa,pc,e,g1,g2,h3.imp id fun ⟨g,e,hl,hg,hr,hf⟩=>⟨g,e,by omega,by omega,hr,hf.mono (prop_kept _) h2⟩⟩
set_option maxRecDepth 100000 in
set_option maxHeartbeats 4000000 in
theorem copiesP_some (ps:List (ByteArray × Tree)) (a:Addr) (pc B:Nat) (w:World) (hB:B≤w.heap.size) (hp:PropsLie B w (.slice (some a) ps.length pc) ps) (hn:ps.length≤2000000) (ht:∀ q ∈ ps,q.2.total≤2000000) :
  Calls Tryz.prog 100 #[.slice (some a) ps.length pc,.func (.func 101) #[] #[]] w fun e w'=>∃ v,e=.returned v∧PropsF w.heap.size w'.heap.size w' v ps∧Below w.heap.size w w':=by
 obtain ⟨pa',pc',e1,h1,h2,hp3⟩:=hp
 obtain ⟨rfl,rfl⟩:some a=pa'∧pc=pc':=by injection e1 with e1 _ e2;exact ⟨e1,e2⟩
 obtain ⟨i0,hi,hz0,hz1,hz2⟩:=info_parts Tryz.info79
 have hmk:∀ W:World,(Instr.makeSlice 45 (.int .i64 (ps.length:Int)) (.int .i64 (ps.length:Int))).run Tryz.prog W=.ok (.slice (some ⟨W.heap.size,0,none⟩) ps.length ps.length) (W.alloc (.cells (madeCells #[.string ⟨#[]⟩,.int .i64 0,.bool false,.int .i64 0,.string ⟨#[]⟩,.slice none 0 0,.slice none 0 0] (ps.length*7)) 79)):=fun W=>by
  have:=run_makeSlice (P:=Tryz.prog) W 45 79 i0 _ Tryz.underlying45 hi hz0 .i64 .i64 (ps.length:Int) (ps.length:Int) (by omega) (by omega) (by rw [hz1];omega) (by rw [hz2];omega) (by omega)
  simpa [hz1,Value.cells] using this
 have heq:∀ W:World,(binOp .eql 45 (.slice (some a) ps.length pc) (.slice none 0 0)).run Tryz.prog W=.ok (.bool false) W:=fun W=>by
  have:=Lib.run_eql_slice_nil (P:=Tryz.prog) W 45 79 (some a) ps.length pc 0 0 Tryz.underlying45
  simpa using this
 obtain ⟨W1,hW1⟩:∃ W1,w.alloc (.cells (madeCells #[.string ⟨#[]⟩,.int .i64 0,.bool false,.int .i64 0,.string ⟨#[]⟩,.slice none 0 0,.slice none 0 0] (ps.length*7)) 79)=W1:=⟨_,rfl⟩
 have hb1:Below w.heap.size w W1:=hW1▸(Below.refl _ _).alloc (Nat.le_refl _) _
 have hg1:w.heap.size<W1.heap.size:=by rw [← hW1];simp
 have hroom:RoomK 7 W1 w.heap.size ps.length:=by
  intro o ho
  rw [← hW1]
  have hs:(madeCells #[.string ⟨#[]⟩,.int .i64 0,.bool false,.int .i64 0,.string ⟨#[]⟩,.slice none 0 0,.slice none 0 0] (ps.length*7)).size=ps.length*7:=size_madeCells _ _
  refine ⟨?_,?_⟩
  ·rw [cell_new _ _ _ o _ (Array.getElem?_eq_getElem (by rw [hs];exact ho))];rfl
  ·have hn:=World.alloc_heap_new w (.cells (madeCells #[.string ⟨#[]⟩,.int .i64 0,.bool false,.int .i64 0,.string ⟨#[]⟩,.slice none 0 0,.slice none 0 0] (ps.length*7)) 79)
   unfold World.frozen?
   simp only [hn]
   simp
 have HP:=hidE hp3
 have HT:=hidE ht
 have HW1:=hidE hW1
 clear hp3 ht hW1 hi hz0 hz1 hz2 e1
 go_enter Tryz.func100,Tryz.ntmps100
 go_upto_region 4 with fail
 rw [HW1.out]
 clear hmk heq HW1
 go_wp2_with fail
 go_loopw [15] (fun i wr=>∃ j:Nat,j≤ps.length∧i=.int .i64 j∧Below w.heap.size w wr∧w.heap.size<wr.heap.size∧RoomK 7 wr w.heap.size ps.length∧Filled 7 w.heap.size (PropIs (w.heap.size+1)) wr.heap.size wr (ps.take j)) (fun i _=>ps.length - (intOf i).toNat)
 case atStart=>exact ⟨0,Nat.zero_le _,rfl,hb1,hg1,hroom,by rw [List.take_zero];exact filled_none⟩
 case round =>
  obtain ⟨j,hj,rfl,hbr,hgr,hrm,hfi⟩:=hrel
  have HBR:=hidE hbr
  have HRM:=hidE hrm
  have HFI:=hidE hfi
  clear hbr hrm hfi hb1 hg1 hroom
  by_cases hlt:j<ps.length
  ·obtain ⟨bl,off,ha,hbl,hc⟩:=HP.out.resolve_left (by intro e;rw [e] at hlt;simp at hlt)
   obtain rfl:a=⟨bl,off,none⟩:=by simpa using ha
   obtain ⟨⟨x,⟨tk,tb,tn,ts,tks,tts⟩⟩,hx⟩:∃ q,ps[j]?=some q:=⟨_,List.getElem?_eq_getElem hlt⟩
   have HX:=hidE hx
   obtain ⟨cx,hsx,v0,v1,v2,v3,v4,v5,⟨c0,c1,c2,c3,c4,c5⟩,hv⟩:=(hc j _ hx).below (HBR.out.mono hB) hbl
   have htx:=HT.out _ (List.mem_of_getElem? hx)
   simp only at cx hsx hv htx
   have HSX:=hidE hsx
   have hv0:=hv
   simp only [Lies] at hv
   obtain ⟨kaa,kcc,laa,lcc,hag,_⟩:=hv
   obtain ⟨rfl,rfl,rfl,rfl,rfl,rfl⟩:v0=.int .i64 tk∧v1=.bool tb∧v2=.int .i64 tn∧v3=.string ts∧v4=.slice kaa tks.length kcc∧v5=.slice laa tts.length lcc:=by
    simpa using hag
   have HV:=hidE hv0
   clear hc hx hag hv0 hsx ha
   go_upto_region 7 with fail
   generalize hW2:World.alloc _ _=W2
   have hr2:=rec_new wr #[.string x,.int .i64 tk,.bool tb,.int .i64 tn,.string ts,.slice kaa tks.length kcc,.slice laa tts.length lcc] 79
   rw [hW2] at hr2
   have HB2:Hid (Below wr.heap.size wr W2):=by rw [← hW2];exact (Below.refl _ _).alloc (Nat.le_refl _) _
   have HC:=hidE (copyProp_any x (.mk tk tb tn ts tks tts) _ _ _ _ _ _ B W2 (by have:=HBR.out.size;have:=HB2.out.size;omega) (HV.out.below (HB2.out.mono (by omega))) htx)
   have k0:=hr2.cell 0 rfl
   have k1:=hr2.cell 1 rfl
   have k2:=hr2.cell 2 rfl
   have k3:=hr2.cell 3 rfl
   have k4:=hr2.cell 4 rfl
   have k5:=hr2.cell 5 rfl
   have k6:=hr2.cell 6 rfl
   have hw2:=hr2.lt
   clear hW2 hr2 cx c0 c1 c2 c3 c4 c5 htx
   go_wp2_with fail
   refine HC.out.mono ?_
   rintro e w3 ⟨d0,d1,d2,d3,d4,d5,rfl,hl3,hb3⟩
   have HL3:=hidE hl3
   simp only [LiesF] at hl3
   obtain ⟨ka',kc',la',lc',hag,_⟩:=hl3
   obtain ⟨rfl,rfl,rfl,rfl,rfl,rfl⟩:d0=.int .i64 tk∧d1=.bool tb∧d2=.int .i64 tn∧d3=.string ts∧d4=.slice ka' tks.length kc'∧d5=.slice la' tts.length lc':=by
    simpa using hag
   have HBA:=hidE (below_on HB2.out hb3)
   have hsz3:wr.heap.size<w3.heap.size:=by have:=hb3.size;omega
   have hrm3:=HRM.out.below HBA.out hgr
   have HR3:=hidE hrm3
   obtain ⟨u0,y0⟩:=Option.isSome_iff_exists.1 (hrm3 (j*7) (by omega)).1
   obtain ⟨u1,y1⟩:=Option.isSome_iff_exists.1 (hrm3 (j*7+1) (by omega)).1
   obtain ⟨u2,y2⟩:=Option.isSome_iff_exists.1 (hrm3 (j*7+2) (by omega)).1
   obtain ⟨u3,y3⟩:=Option.isSome_iff_exists.1 (hrm3 (j*7+3) (by omega)).1
   obtain ⟨u4,y4⟩:=Option.isSome_iff_exists.1 (hrm3 (j*7+4) (by omega)).1
   obtain ⟨u5,y5⟩:=Option.isSome_iff_exists.1 (hrm3 (j*7+5) (by omega)).1
   obtain ⟨u6,y6⟩:=Option.isSome_iff_exists.1 (hrm3 (j*7+6) (by omega)).1
   have f0:=(hrm3 (j*7) (by omega)).2
   have f1:=(hrm3 (j*7+1) (by omega)).2
   have f2:=(hrm3 (j*7+2) (by omega)).2
   have f3:=(hrm3 (j*7+3) (by omega)).2
   have f4:=(hrm3 (j*7+4) (by omega)).2
   have f5:=(hrm3 (j*7+5) (by omega)).2
   have f6:=(hrm3 (j*7+6) (by omega)).2
   have HL:Hid (w.heap.size+1≤W2.heap.size):=by
    show _≤_
    omega
   clear hb3 hag hrm3 k0 k1 k2 k3 k4 k5 k6 HC
   go_upto_region 8 with fail
   clear y0 y1 y2 y3 y4 y5 y6 f0 f1 f2 f3 f4 f5 f6
   generalize hW4:World.setCell _ _ _=W4
   have hW4':w3.setCells w.heap.size (j*7) [.string x,.int .i64 tk,.bool tb,.int .i64 tn,.string ts,.slice ka' tks.length kc',.slice la' tts.length lc']=W4:=by rw [← hW4];rfl
   have HB4:Hid (Below w.heap.size w W4):=by
    rw [← hW4']
    exact cells_below (Nat.le_refl _) _ _ _ (below_on HBR.out HBA.out)
   have HR4:Hid (RoomK 7 W4 w.heap.size ps.length):=by
    rw [← hW4']
    exact HR3.out.puts _ (by simp;omega)
   have HF4:Hid (Filled 7 w.heap.size (PropIs (w.heap.size+1)) W4.heap.size W4 (ps.take (j+1))):=by
    rw [← hW4',cells_size]
    exact filled_step (n:=ps.length) (prop_kept _) HX.out hgr HBA.out HFI.out rfl ⟨_,_,_,_,_,_,rfl,HSX.out,HL3.out.mono HL.out (Nat.le_refl _)⟩ HR3.out hlt
   have hs4:w.heap.size<W4.heap.size:=by
    rw [← hW4',cells_size];omega
   clear hW4 hW4'
   go_wp2_with fail
   go_roundw
   case rel=>exact ⟨j+1,by omega,by go_num,HB4.out,hs4,HR4.out,HF4.out⟩
   case measure=>simp [intOf];omega
  ·have HF2:Hid (Filled 7 w.heap.size (PropIs (w.heap.size+1)) wr.heap.size wr ps):=by
    have:=HFI.out
    rwa [List.take_of_length_le (by omega)] at this
   go_wp2_with fail
   go_ret
   exact ⟨_,rfl,⟨_,_,rfl,Nat.le_refl _,by omega,.inr ⟨w.heap.size,rfl,Nat.le_refl _,hgr,HRM.out,HF2.out⟩⟩,HBR.out⟩
theorem copiesP_any (v:Value) (ps:List (ByteArray × Tree)) (B:Nat) (w:World) (hB:B≤w.heap.size) (hp:PropsLie B w v ps) (hn:ps.length≤2000000) (ht:∀ q ∈ ps,q.2.total≤2000000) :
  Calls Tryz.prog 100 #[v,.func (.func 101) #[] #[]] w fun e w'=>∃ v,e=.returned v∧PropsF w.heap.size w'.heap.size w' v ps∧Below w.heap.size w w':=by
 have hp0:=hp
 obtain ⟨pa,pc,rfl,h1,h2,h3⟩:=hp
 cases pa with
 | none =>
  have h0:ps=[]:=h3.elim id fun ⟨bl,off,e,_⟩=>by cases e
  subst h0
  refine (copiesP_nil _ _ pc w).mono ?_
  rintro e w' ⟨rfl,rfl⟩
  exact ⟨_,rfl,⟨none,0,rfl,Nat.le_refl _,by omega,.inl rfl⟩,Below.refl _ _⟩
 | some a=>exact copiesP_some ps a pc B w hB hp0 hn ht
end Go.Proofs.YteddjlbfbpecjaaGreatDoor

