/- Values that stand at one place are the same: what the program's Same says against the document's. May all values of a graph's properties be: the document's word. Graphs are the same by the program's word just if they are by the document's, and their values may be. Where a node stands: the document's word. -/
import Derived.Test.YteddjlbfbpecjaaGreatDoorJoin12
import Derived.Test.YteddjlbfbpecjaaGreatDoorJoin23
import Derived.Test.YteddjlbfbpecjaaGreatDoorJoin17
import Derived.Test.YteddjlbfbpecjaaGreatDoorJoin4
import Derived.Test.YteddjlbfbpecjaaGreatDoorJoin2
import Derived.Test.YteddjlbfbpecjaaGreatDoorJoin18
import Derived.Test.YteddjlbfbpecjaaGreatDoorJoin32
namespace Go.Proofs.YteddjlbfbpecjaaGreatDoor
open Go.RowKit Go.Shelf Go.Lib
set_option linter.unusedVariables false
theorem textsB_self  : ∀ (a:List ByteArray),textsB a a=true
 | []=>rfl
 | a::r=>by rw [textsB,textsB_self r];simp
mutual
theorem alikeT_self  : ∀ (A:Tree),alikeT A A=true
 | .mk k x n s ks ts=>by
  simp only [alikeT,textsB_self,alikeL_self ts,bne_self_eq_false,beq_self_eq_true,Bool.not_false,Bool.and_true]
theorem alikeL_self  : ∀ (a:List Tree),alikeL a a=true
 | []=>rfl
 | a::r=>by rw [alikeL,alikeT_self a,alikeL_self r];rfl
end
end Go.Proofs.YteddjlbfbpecjaaGreatDoor

namespace Go.Proofs.YteddjlbfbpecjaaGreatDoor
open Go.RowKit Go.Shelf
set_option linter.unusedVariables false
set_option linter.unusedSimpArgs false
attribute [local go_sem] Oper.semAt_some
structure Sanely (g:GraphP):Prop where
 ofNode:∀ n ∈ g.nodes,∀ q ∈ n.props,Sane q.2∧q.2.total≤2000000
 ofRel:∀ r ∈ g.rels,∀ q ∈ r.props,Sane q.2∧q.2.total≤2000000
end Go.Proofs.YteddjlbfbpecjaaGreatDoor

namespace Go.Proofs.YteddjlbfbpecjaaGreatDoor
open Go.RowKit Go.Shelf
set_option linter.unusedVariables false
theorem len_test {α:Type} (a b:List α):(!((a.length:Int) != (b.length:Int)))=decide (a.length=b.length):=by
 rw [Bool.eq_iff_iff];simp
 omega
theorem sameTexts_self (a:List ByteArray):sameTextsB a a=true:=by unfold sameTextsB;rw [len_test,textsB_self];simp
theorem propsAlike_self  : ∀ (a:List (ByteArray × Tree)),propsAlike a a=true
 | []=>rfl
 | p::r=>by rw [propsAlike,alikeT_self,propsAlike_self r];simp
theorem sameProps_self (a:List (ByteArray × Tree)):samePropsB a a=true:=by unfold samePropsB;rw [len_test,propsAlike_self];simp
theorem nodesAlike_self  : ∀ (a:List NodeP),nodesAlike a a=true
 | []=>rfl
 | p::r=>by rw [nodesAlike,nodesAlike_self r];unfold sameNodeB;rw [sameTexts_self,sameProps_self];simp
theorem relsAlike_self  : ∀ (a:List RelP),relsAlike a a=true
 | []=>rfl
 | p::r=>by rw [relsAlike,relsAlike_self r];unfold sameRelB;rw [sameProps_self];simp
theorem sameGraph_self (g:GraphP):sameGraphB g g=true:=by
 unfold sameGraphB
 rw [len_test,len_test,nodesAlike_self,relsAlike_self]
 simp
end Go.Proofs.YteddjlbfbpecjaaGreatDoor

namespace Go.Proofs.YteddjlbfbpecjaaGreatDoor
open Go.RowKit Go.Shelf
set_option linter.unusedVariables false
set_option linter.unusedSimpArgs false
attribute [local go_sem] Oper.semAt_some
set_option maxRecDepth 100000 in
set_option maxHeartbeats 4000000 in
theorem rfind_any (g:GraphP) (id:Int) (B:Nat) (v:Value) (w:World) (hB:B≤w.heap.size) (hg:GraphLies B w v g):Calls Tryz.prog 44 #[v,.int .i64 id] w fun e w'=>e=.returned (.int .i64 (findI id g.nodes 0))∧Below w.heap.size w w':=by
 obtain ⟨na,nc,ra,rc,rfl,hn,_⟩:=hg
 obtain ⟨ns,rs,nn,nr⟩:=g
 simp only at hn ⊢
 obtain ⟨a',c',e1,h1,h2,hp3⟩:=hn
 obtain ⟨rfl,rfl⟩:na=a'∧nc=c':=by injection e1 with e1 _ e2;exact ⟨e1,e2⟩
 have HP:=hidE hp3
 obtain ⟨n,hn⟩:∃ n,ns.length=n:=⟨_,rfl⟩
 have HN:=hidE hn
 rw [hn] at h1 ⊢
 obtain ⟨m,hm⟩:∃ m,rs.length=m:=⟨_,rfl⟩
 rw [hm]
 obtain ⟨res,hres⟩:∃ r,findI id ns 0=r:=⟨_,rfl⟩
 have HR:=hidE hres
 rw [hres]
 clear hp3 hn hres hm e1
 obtain ⟨W1,hW1⟩:∃ W1,w.alloc (.cells #[.slice na n nc,.slice ra m rc,.int .i64 nn,.int .i64 nr] 25)=W1:=⟨_,rfl⟩
 have hb1:Below w.heap.size w W1:=hW1▸(Below.refl _ _).alloc (Nat.le_refl _) _
 have q0:W1.cell? ⟨w.heap.size,0,none⟩=some (.slice na n nc):=hW1▸cell_new _ _ _ _ _ rfl
 have HB1:=hidE hb1
 have HW1:=hidE hW1
 clear hb1 hW1
 go_enter Tryz.func44,Tryz.ntmps44
 go_upto_region 1 with fail
 rw [HW1.out]
 clear HW1
 go_wp2_with fail
 go_loopw [5] (fun i wr=>∃ j:Nat,j≤n∧i=.int .i64 j∧wr=W1∧findI id (ns.drop j) j=res) (fun i _=>n - (intOf i).toNat)
 case atStart=>exact ⟨0,Nat.zero_le _,rfl,rfl,HR.out⟩
 case round =>
  obtain ⟨j,hj,rfl,rfl,hrs⟩:=hrel
  have HRS:=hidE hrs
  clear hrs
  by_cases hlt:j<n
  ·have hlt':(j:Int)<n:=by omega
   obtain ⟨⟨xi,xl,xp⟩,hx⟩:∃ q,ns[j]?=some q:=⟨_,List.getElem?_eq_getElem (by have:=HN.out;omega)⟩
   have HX:=hidE hx
   obtain ⟨bl,off,rfl,hbl,hc⟩:=HP.out.resolve_left (by intro e;rw [e] at hx;simp at hx)
   obtain ⟨la,lc,pv,⟨c0,c1,c2⟩,_⟩:=(hc j _ hx).below (HB1.out.mono hB) hbl
   simp only at c0
   clear hc hx c1 c2
   by_cases he:xi=id
   ·have he':(xi==id)=true:=by simp [he]
    have HF:Hid (res=(j:Int)):=by
     show _=_
     rw [← HRS.out,findI_at HX.out];exact if_pos he
    clear he
    go_wp2_with fail
    go_ret
    exact ⟨by rw [HF.out];rfl,HB1.out⟩
   ·have he':(xi==id)=false:=by simp [he]
    have HF:Hid (findI id (ns.drop (j+1)) (j+1)=res):=by
     show _=_
     rw [← HRS.out,findI_at HX.out];exact (if_neg he).symm
    clear he
    go_wp2_with fail
    go_roundw
    case rel=>exact ⟨j+1,by omega,by go_num,trivial,HF.out⟩
    case measure=>simp [intOf];omega
  ·have HF:Hid (res=-1):=by
    show _=_
    rw [← HRS.out,List.drop_of_length_le (by have:=HN.out;omega)]
    rfl
   have hlt':¬ (j:Int)<n:=by omega
   go_wp2_with fail
   go_ret
   exact ⟨by rw [HF.out];rfl,HB1.out⟩
end Go.Proofs.YteddjlbfbpecjaaGreatDoor

