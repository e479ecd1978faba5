/- Values that stand at one place are the same: what the program's Zae says against the document's. -/
import Derived.Test.YteddjlbfbpecjaaGreatDoorJoin12
import Derived.Test.YteddjlbfbpecjaaGreatDoorJoin23
import Derived.Test.YteddjlbfbpecjaaGreatDoorJoin17
import Derived.Test.YteddjlbfbpecjaaGreatDoorJoin4
import Derived.Test.YteddjlbfbpecjaaGreatDoorJoin2
import Derived.Test.YteddjlbfbpecjaaGreatDoorJoin18
import Derived.Test.YteddjlbfbpecjaaGreatDoorRsam3
namespace Go.Proofs.YteddjlbfbpecjaaGreatDoor
section
open Go.RowKit Go.Shelf Go.Lib
set_option linter.all false
theorem Zfc  : ∀ (a:List ByteArray),Zck a a=true
 | []=>rfl
 | a::r=>by rw [Zck,Zfc r];simp
mutual
theorem Zh9  : ∀ (A:Zk),Zec A A=true
 | .mk k x n s ks ts=>by
  simp only [Zec,Zfc,alikeL_self ts,bne_self_eq_false,beq_self_eq_true,Bool.not_false,Bool.and_true]
theorem alikeL_self  : ∀ (a:List Zk),alikeL a a=true
 | []=>rfl
 | a::r=>by rw [alikeL,Zh9 a,alikeL_self r];rfl
end
end
section
open Go.RowKit Go.Shelf
set_option linter.all false
attribute [local go_sem] Oper.semAt_some
structure Jb9 (g:Zy):Prop where
 ofNode:∀ n ∈ g.nodes,∀ q ∈ n.props,Zj6 q.2∧q.2.total≤2000000
 ofRel:∀ r ∈ g.rels,∀ q ∈ r.props,Zj6 q.2∧q.2.total≤2000000
end
section
open Go.RowKit Go.Shelf
set_option linter.all false
theorem Zg7 {α:Type} (a b:List α):(!((a.length:Int) != (b.length:Int)))=decide (a.length=b.length):=by
 rw [Bool.eq_iff_iff];simp
 omega
theorem Zi0 (a:List ByteArray):Zb1 a a=true:=by unfold Zb1;rw [Zg7,Zfc];simp
theorem Zd4  : ∀ (a:List (ByteArray × Zk)),Zat a a=true
 | []=>rfl
 | p::r=>by rw [Zat,Zh9,Zd4 r];simp
theorem Zey (a:List (ByteArray × Zk)):Za8 a a=true:=by unfold Za8;rw [Zg7,Zd4];simp
theorem Zd5  : ∀ (a:List Zp),Zau a a=true
 | []=>rfl
 | p::r=>by rw [Zau,Zd5 r];unfold Zco;rw [Zi0,Zey];simp
theorem Zez  : ∀ (a:List Jj),Zad a a=true
 | []=>rfl
 | p::r=>by rw [Zad,Zez r];unfold Zdk;rw [Zey];simp
theorem Ze0 (g:Zy):Zdf g g=true:=by
 unfold Zdf
 rw [Zg7,Zg7,Zd5,Zez]
 simp
end
section
open Go.RowKit Go.Shelf
set_option linter.all false
attribute [local go_sem] Oper.semAt_some
set_option maxRecDepth 100000 in
set_option maxHeartbeats 4000000 in
theorem Ztu (g:Zy) (id:Int) (B:Nat) (v:Value) (w:World) (hB:B≤w.heap.size) (hg:Zq B w v g):Calls Tryz.prog 44 #[v,.int .i64 id] w fun e w'=>e=.returned (.int .i64 (Zc8 id g.nodes 0))∧Below w.heap.size w w':=by
 obtain ⟨na,nc,ra,rc,rfl,hn,_⟩:=hg
 obtain ⟨ns,rs,nn,nr⟩:=g
 simp only at hn ⊢
 obtain ⟨a',c',e1,h1,h2,hp3⟩:=hn
 obtain ⟨rfl,rfl⟩:na=a'∧nc=c':=by injection e1 with e1 _ e2;exact ⟨e1,e2⟩
 have HP:=Zb hp3
 obtain ⟨n,hn⟩:∃ n,ns.length=n:=⟨_,rfl⟩
 have HN:=Zb hn
 rw [hn] at h1 ⊢
 obtain ⟨m,hm⟩:∃ m,rs.length=m:=⟨_,rfl⟩
 rw [hm]
 obtain ⟨res,hres⟩:∃ r,Zc8 id ns 0=r:=⟨_,rfl⟩
 have HR:=Zb hres
 rw [hres]
 clear hp3 hn hres hm e1
 obtain ⟨W1,hW1⟩:∃ W1,w.alloc (.cells #[.slice na n nc,.slice ra m rc,.int .i64 nn,.int .i64 nr] 25)=W1:=⟨_,rfl⟩
 have hb1:Below w.heap.size w W1:=hW1▸(Below.refl _ _).alloc (Nat.le_refl _) _
 have q0:W1.cell? ⟨w.heap.size,0,none⟩=some (.slice na n nc):=hW1▸Zaf _ _ _ _ _ rfl
 have HB1:=Zb hb1
 have HW1:=Zb hW1
 clear hb1 hW1
 go_enter Tryz.func44,Tryz.ntmps44
 go_upto_region 1 with fail
 rw [HW1.out]
 clear HW1
 go_wp2_with fail
 go_loopw [5] (fun i wr=>∃ j:Nat,j≤n∧i=.int .i64 j∧wr=W1∧Zc8 id (ns.drop j) j=res) (fun i _=>n - (intOf i).toNat)
 case atStart=>exact ⟨0,Nat.zero_le _,rfl,rfl,HR.out⟩
 case round =>
  obtain ⟨j,hj,rfl,rfl,hrs⟩:=hrel
  have HRS:=Zb hrs
  clear hrs
  by_cases hlt:j<n
  ·have hlt':(j:Int)<n:=by omega
   obtain ⟨⟨xi,xl,xp⟩,hx⟩:∃ q,ns[j]?=some q:=⟨_,List.getElem?_eq_getElem (by have:=HN.out;omega)⟩
   have HX:=Zb hx
   obtain ⟨bl,off,rfl,hbl,hc⟩:=HP.out.resolve_left (by intro e;rw [e] at hx;simp at hx)
   obtain ⟨la,lc,pv,⟨c0,c1,c2⟩,_⟩:=(hc j _ hx).below (HB1.out.mono hB) hbl
   simp only at c0
   clear hc hx c1 c2
   by_cases he:xi=id
   ·have he':(xi==id)=true:=by simp [he]
    have HF:Hid (res=(j:Int)):=by
     show _=_
     rw [← HRS.out,Zpe HX.out];exact if_pos he
    clear he
    go_wp2_with fail
    go_ret
    exact ⟨by rw [HF.out];rfl,HB1.out⟩
   ·have he':(xi==id)=false:=by simp [he]
    have HF:Hid (Zc8 id (ns.drop (j+1)) (j+1)=res):=by
     show _=_
     rw [← HRS.out,Zpe HX.out];exact (if_neg he).symm
    clear he
    go_wp2_with fail
    go_roundw
    case rel=>exact ⟨j+1,by omega,by go_num,trivial,HF.out⟩
    case measure=>simp [intOf];omega
  ·have HF:Hid (res=-1):=by
    show _=_
    rw [← HRS.out,List.drop_of_length_le (by have:=HN.out;omega)]
    rfl
   have hlt':¬ (j:Int)<n:=by omega
   go_wp2_with fail
   go_ret
   exact ⟨by rw [HF.out];rfl,HB1.out⟩
end
