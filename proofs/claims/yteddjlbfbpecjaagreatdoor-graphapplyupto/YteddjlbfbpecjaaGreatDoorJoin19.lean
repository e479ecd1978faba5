/- Copies of nodes, of relationships, any many. -/
import Derived.Test.YteddjlbfbpecjaaGreatDoorJoin18
import Derived.Test.YteddjlbfbpecjaaGreatDoorJoin1
import Derived.Laws.AppendOwn
import Derived.Test.YteddjlbfbpecjaaGreatDoorJoin16
import Derived.Test.YteddjlbfbpecjaaGreatDoorJoin2
namespace Go.Proofs.YteddjlbfbpecjaaGreatDoor
section
open Go.RowKit Go.Shelf
set_option maxHeartbeats 4000000
set_option maxRecDepth 100000
set_option linter.all false
attribute [local go_sem] Oper.semAt_some
theorem Tryz.info49'  : (Tryz.prog.info? 49).map (fun i=>(i.zero,i.size,i.bytes))=some (some (.agg #[.int .i64 0,.int .i64 0,.int .i64 0,.string ⟨#[]⟩,.slice none 0 0]),5,64):=by kernel_rfl
theorem Zee.lower {lo lo' B:Nat} {w:World} {cs:List Value} {n:Zp} (h:lo'≤lo) (hn:Zee lo B w cs n):Zee lo' B w cs n:=by
 obtain ⟨la,lc,pv,e,hs,hk,hp⟩:=hn
 exact ⟨la,lc,pv,e,hs,hk.mono h (Nat.le_refl _),hp.mono h (Nat.le_refl _)⟩
theorem Zim.lower {lo lo' B:Nat} {w:World} {cs:List Value} {n:Jj} (h:lo'≤lo) (hn:Zim lo B w cs n):Zim lo' B w cs n:=by
 obtain ⟨pv,e,hp⟩:=hn
 exact ⟨pv,e,hp.mono h (Nat.le_refl _)⟩
def Zb2 (lo B:Nat) (w:World) (v:Value) (ps:List Zp):Prop :=
 ∃ pa pc,v=.slice pa ps.length pc∧ps.length≤pc∧pc≤9223372036854775807∧(ps=[]∨∃ g,pa=some ⟨g,0,none⟩∧lo≤g∧g<B∧Zcx 3 w g ps.length∧Zbh 3 g (Zee (g+1)) B w ps)
theorem Zmi (ps:List Zp) (a:Addr) (pc B:Nat) (w:World) (hB:B≤w.heap.size) (hp:Zax B w (.slice (some a) ps.length pc) ps) (hn:ps.length≤2000000) (ht:(∀ x ∈ ps,x.labels.length≤2000000∧x.props.length≤2000000∧∀ q ∈ x.props,q.2.total≤2000000)) :
  Calls Tryz.prog 35 #[.slice (some a) ps.length pc,.func (.func 36) #[] #[]] w fun e w'=>∃ v,e=.returned v∧Zb2 w.heap.size w'.heap.size w' v ps∧Below w.heap.size w w':=by
 obtain ⟨pa',pc',e1,h1,h2,hp3⟩:=hp
 obtain ⟨rfl,rfl⟩:some a=pa'∧pc=pc':=by injection e1 with e1 _ e2;exact ⟨e1,e2⟩
 obtain ⟨i0,hi,hz0,hz1,hz2⟩:=info_parts Tryz.info47
 have hmk:∀ W:World,(Instr.makeSlice 22 (.int .i64 (ps.length:Int)) (.int .i64 (ps.length:Int))).run Tryz.prog W=.ok (.slice (some ⟨W.heap.size,0,none⟩) ps.length ps.length) (W.alloc (.cells (madeCells #[.int .i64 0,.slice none 0 0,.slice none 0 0] (ps.length*3)) 47)):=fun W=>by
  have:=run_makeSlice (P:=Tryz.prog) W 22 47 i0 _ Tryz.underlying22 hi hz0 .i64 .i64 (ps.length:Int) (ps.length:Int) (by omega) (by omega) (by rw [hz1];omega) (by rw [hz2];omega) (by omega)
  simpa [hz1,Value.cells] using this
 have heq:∀ W:World,(binOp .eql 22 (.slice (some a) ps.length pc) (.slice none 0 0)).run Tryz.prog W=.ok (.bool false) W:=fun W=>by
  have:=Lib.run_eql_slice_nil (P:=Tryz.prog) W 22 47 (some a) ps.length pc 0 0 Tryz.underlying22
  simpa using this
 obtain ⟨W1,hW1⟩:∃ W1,w.alloc (.cells (madeCells #[.int .i64 0,.slice none 0 0,.slice none 0 0] (ps.length*3)) 47)=W1:=⟨_,rfl⟩
 have hb1:Below w.heap.size w W1:=hW1▸(Below.refl _ _).alloc (Nat.le_refl _) _
 have hg1:w.heap.size<W1.heap.size:=by rw [← hW1];simp
 have hroom:Zcx 3 W1 w.heap.size ps.length:=by
  intro o ho
  rw [← hW1]
  have hs:(madeCells #[.int .i64 0,.slice none 0 0,.slice none 0 0] (ps.length*3)).size=ps.length*3:=size_madeCells _ _
  refine ⟨?_,?_⟩
  ·rw [Zaf _ _ _ o _ (Array.getElem?_eq_getElem (by rw [hs];exact ho))];rfl
  ·have hn:=World.alloc_heap_new w (.cells (madeCells #[.int .i64 0,.slice none 0 0,.slice none 0 0] (ps.length*3)) 47)
   unfold World.frozen?
   simp only [hn]
   simp
 have HP:=Zb hp3
 have HT:=Zb ht
 have HW1:=Zb hW1
 clear hp3 ht hW1 hi hz0 hz1 hz2 e1
 go_enter Tryz.func35,Tryz.ntmps35
 go_upto_region 4 with fail
 rw [HW1.out]
 clear hmk heq HW1
 go_wp2_with fail
 go_loopw [15] (fun i wr=>∃ j:Nat,j≤ps.length∧i=.int .i64 j∧Below w.heap.size w wr∧w.heap.size<wr.heap.size∧Zcx 3 wr w.heap.size ps.length∧Zbh 3 w.heap.size (Zee (w.heap.size+1)) wr.heap.size wr (ps.take j)) (fun i _=>ps.length - (intOf i).toNat)
 case atStart=>exact ⟨0,Nat.zero_le _,rfl,hb1,hg1,hroom,by rw [List.take_zero];exact Ze5⟩
 case round =>
  obtain ⟨j,hj,rfl,hbr,hgr,hrm,hfi⟩:=hrel
  have HBR:=Zb hbr
  have HRM:=Zb hrm
  have HFI:=Zb hfi
  clear hbr hrm hfi hb1 hg1 hroom
  by_cases hlt:j<ps.length
  ·obtain ⟨bl,off,ha,hbl,hc⟩:=HP.out.resolve_left (by intro e;rw [e] at hlt;simp at hlt)
   obtain rfl:a=⟨bl,off,none⟩:=by simpa using ha
   obtain ⟨⟨xi,xl,xp⟩,hx⟩:∃ q,ps[j]?=some q:=⟨_,List.getElem?_eq_getElem hlt⟩
   have HX:=Zb hx
   obtain ⟨la,lc,pv,⟨c0,c1,c2⟩,hl12,hkk,hp⟩:=(hc j _ hx).below (HBR.out.mono hB) hbl
   have hp0:=hp
   obtain ⟨pa,pc,rfl,_,_,_⟩:=hp
   simp only at c0 c1 c2 hl12 hkk hp0
   have HV:Hid (Zv B wr (.agg #[.int .i64 xi,.slice la xl.length lc,.slice pa xp.length pc]) ⟨xi,xl,xp⟩):=⟨la,lc,pa,pc,rfl,hl12,hkk,hp0⟩
   clear hl12 hkk hp0
   have htx:=HT.out _ (List.mem_of_getElem? hx)
   clear hc hx ha
   go_upto_region 7 with fail
   generalize hW2:World.alloc _ _=W2
   have hr2:=Zl wr #[.int .i64 xi,.slice la xl.length lc,.slice pa xp.length pc] 47
   rw [hW2] at hr2
   have HB2:Hid (Below wr.heap.size wr W2):=by rw [← hW2];exact (Below.refl _ _).alloc (Nat.le_refl _) _
   have HC:=Zb (Zlp _ _ B W2 (by have:=HBR.out.size;have:=HB2.out.size;omega) (HV.out.below (HB2.out.mono (by have:=HBR.out.size;omega))) htx.1 htx.2.1 htx.2.2)
   have k0:=hr2.cell 0 rfl
   have k1:=hr2.cell 1 rfl
   have k2:=hr2.cell 2 rfl
   have hw2:=hr2.lt
   clear hW2 hr2 c0 c1 c2 htx
   go_wp2_with fail
   refine HC.out.mono ?_
   rintro e w3 ⟨cs3,rfl,hl3,hb3⟩
   obtain ⟨la3,lc3,pv3,rfl,hsl,hkf,hpf⟩:=hl3
   have hpf0:=hpf
   obtain ⟨pa3,pc3,rfl,_⟩:=hpf
   have HL3:Hid (Zee W2.heap.size w3.heap.size w3 [.int .i64 xi,.slice la3 xl.length lc3,.slice pa3 xp.length pc3] ⟨xi,xl,xp⟩):=⟨la3,lc3,_,rfl,hsl,hkf,hpf0⟩
   clear hsl hkf hpf0
   have HBA:=Zb (Za HB2.out hb3)
   have hsz3:wr.heap.size<w3.heap.size:=by have:=hb3.size;omega
   have hrm3:=HRM.out.below HBA.out hgr
   have HR3:=Zb hrm3
   obtain ⟨u0,y0⟩:=Option.isSome_iff_exists.1 (hrm3 (j*3) (by omega)).1
   have f0:=(hrm3 (j*3) (by omega)).2
   obtain ⟨u1,y1⟩:=Option.isSome_iff_exists.1 (hrm3 (j*3+1) (by omega)).1
   have f1:=(hrm3 (j*3+1) (by omega)).2
   obtain ⟨u2,y2⟩:=Option.isSome_iff_exists.1 (hrm3 (j*3+2) (by omega)).1
   have f2:=(hrm3 (j*3+2) (by omega)).2
   have HL:Hid (w.heap.size+1≤W2.heap.size):=by
    show _≤_
    omega
   clear hb3 hrm3 k0 k1 k2 HC
   go_upto_region 8 with fail
   clear y0 f0 y1 f1 y2 f2
   generalize hW4:World.setCell _ _ _=W4
   have hW4':w3.setCells w.heap.size (j*3) [.int .i64 xi,.slice la3 xl.length lc3,.slice pa3 xp.length pc3]=W4:=by rw [← hW4];rfl
   have HB4:Hid (Below w.heap.size w W4):=by
    rw [← hW4']
    exact Zdp (Nat.le_refl _) _ _ _ (Za HBR.out HBA.out)
   have HR4:Hid (Zcx 3 W4 w.heap.size ps.length):=by
    rw [← hW4']
    exact HR3.out.puts _ (by simp;omega)
   have HF4:Hid (Zbh 3 w.heap.size (Zee (w.heap.size+1)) W4.heap.size W4 (ps.take (j+1))):=by
    rw [← hW4',Zbz]
    exact Ze6 (n:=ps.length) (Zin _) HX.out hgr HBA.out HFI.out rfl (Zee.lower HL.out HL3.out) HR3.out hlt
   have hs4:w.heap.size<W4.heap.size:=by
    rw [← hW4',Zbz];omega
   clear hW4 hW4'
   go_wp2_with fail
   go_roundw
   case rel=>exact ⟨j+1,by omega,by go_num,HB4.out,hs4,HR4.out,HF4.out⟩
   case measure=>simp [intOf];omega
  ·have HF2:Hid (Zbh 3 w.heap.size (Zee (w.heap.size+1)) wr.heap.size wr ps):=by
    have:=HFI.out
    rwa [List.take_of_length_le (by omega)] at this
   go_wp2_with fail
   go_ret
   exact ⟨_,rfl,⟨_,_,rfl,Nat.le_refl _,by omega,.inr ⟨w.heap.size,rfl,Nat.le_refl _,hgr,HRM.out,HF2.out⟩⟩,HBR.out⟩
theorem Znt (n lc:Nat) (f:Value) (w:World):Calls Tryz.prog 35 #[.slice none n lc,f] w fun e w'=>e=.returned (.slice none 0 0)∧w'=w:=by
 have heq:∀ W:World,(binOp .eql 22 (.slice none n lc) (.slice none 0 0)).run Tryz.prog W=.ok (.bool true) W:=fun W=>by
  have:=Lib.run_eql_slice_nil (P:=Tryz.prog) W 22 47 none n lc 0 0 Tryz.underlying22
  simpa using this
 go_enter Tryz.func35,Tryz.ntmps35
 go_wp2_with fail
 go_ret
 exact ⟨rfl,rfl⟩
theorem Znu (v:Value) (ps:List Zp) (B:Nat) (w:World) (hB:B≤w.heap.size) (hp:Zax B w v ps) (hn:ps.length≤2000000) (ht:(∀ x ∈ ps,x.labels.length≤2000000∧x.props.length≤2000000∧∀ q ∈ x.props,q.2.total≤2000000)) :
  Calls Tryz.prog 35 #[v,.func (.func 36) #[] #[]] w fun e w'=>∃ v,e=.returned v∧Zb2 w.heap.size w'.heap.size w' v ps∧Below w.heap.size w w':=by
 have hp0:=hp
 obtain ⟨pa,pc,rfl,h1,h2,h3⟩:=hp
 cases pa with
 | none =>
  have h0:ps=[]:=h3.elim id fun ⟨bl,off,e,_⟩=>by cases e
  subst h0
  refine (Znt _ pc _ w).mono ?_
  rintro e w' ⟨rfl,rfl⟩
  exact ⟨_,rfl,⟨none,0,rfl,Nat.le_refl _,by omega,.inl rfl⟩,Below.refl _ _⟩
 | some a=>exact Zmi ps a pc B w hB hp0 hn ht
def Zde (lo B:Nat) (w:World) (v:Value) (ps:List Jj):Prop :=
 ∃ pa pc,v=.slice pa ps.length pc∧ps.length≤pc∧pc≤9223372036854775807∧(ps=[]∨∃ g,pa=some ⟨g,0,none⟩∧lo≤g∧g<B∧Zcx 5 w g ps.length∧Zbh 5 g (Zim (g+1)) B w ps)
theorem Zmj (ps:List Jj) (a:Addr) (pc B:Nat) (w:World) (hB:B≤w.heap.size) (hp:Zbe B w (.slice (some a) ps.length pc) ps) (hn:ps.length≤2000000) (ht:(∀ x ∈ ps,x.props.length≤2000000∧∀ q ∈ x.props,q.2.total≤2000000)) :
  Calls Tryz.prog 37 #[.slice (some a) ps.length pc,.func (.func 38) #[] #[]] w fun e w'=>∃ v,e=.returned v∧Zde w.heap.size w'.heap.size w' v ps∧Below w.heap.size w w':=by
 obtain ⟨pa',pc',e1,h1,h2,hp3⟩:=hp
 obtain ⟨rfl,rfl⟩:some a=pa'∧pc=pc':=by injection e1 with e1 _ e2;exact ⟨e1,e2⟩
 obtain ⟨i0,hi,hz0,hz1,hz2⟩:=info_parts Tryz.info49'
 have hmk:∀ W:World,(Instr.makeSlice 23 (.int .i64 (ps.length:Int)) (.int .i64 (ps.length:Int))).run Tryz.prog W=.ok (.slice (some ⟨W.heap.size,0,none⟩) ps.length ps.length) (W.alloc (.cells (madeCells #[.int .i64 0,.int .i64 0,.int .i64 0,.string ⟨#[]⟩,.slice none 0 0] (ps.length*5)) 49)):=fun W=>by
  have:=run_makeSlice (P:=Tryz.prog) W 23 49 i0 _ Tryz.underlying23 hi hz0 .i64 .i64 (ps.length:Int) (ps.length:Int) (by omega) (by omega) (by rw [hz1];omega) (by rw [hz2];omega) (by omega)
  simpa [hz1,Value.cells] using this
 have heq:∀ W:World,(binOp .eql 23 (.slice (some a) ps.length pc) (.slice none 0 0)).run Tryz.prog W=.ok (.bool false) W:=fun W=>by
  have:=Lib.run_eql_slice_nil (P:=Tryz.prog) W 23 49 (some a) ps.length pc 0 0 Tryz.underlying23
  simpa using this
 obtain ⟨W1,hW1⟩:∃ W1,w.alloc (.cells (madeCells #[.int .i64 0,.int .i64 0,.int .i64 0,.string ⟨#[]⟩,.slice none 0 0] (ps.length*5)) 49)=W1:=⟨_,rfl⟩
 have hb1:Below w.heap.size w W1:=hW1▸(Below.refl _ _).alloc (Nat.le_refl _) _
 have hg1:w.heap.size<W1.heap.size:=by rw [← hW1];simp
 have hroom:Zcx 5 W1 w.heap.size ps.length:=by
  intro o ho
  rw [← hW1]
  have hs:(madeCells #[.int .i64 0,.int .i64 0,.int .i64 0,.string ⟨#[]⟩,.slice none 0 0] (ps.length*5)).size=ps.length*5:=size_madeCells _ _
  refine ⟨?_,?_⟩
  ·rw [Zaf _ _ _ o _ (Array.getElem?_eq_getElem (by rw [hs];exact ho))];rfl
  ·have hn:=World.alloc_heap_new w (.cells (madeCells #[.int .i64 0,.int .i64 0,.int .i64 0,.string ⟨#[]⟩,.slice none 0 0] (ps.length*5)) 49)
   unfold World.frozen?
   simp only [hn]
   simp
 have HP:=Zb hp3
 have HT:=Zb ht
 have HW1:=Zb hW1
 clear hp3 ht hW1 hi hz0 hz1 hz2 e1
 go_enter Tryz.func37,Tryz.ntmps37
 go_upto_region 4 with fail
 rw [HW1.out]
 clear hmk heq HW1
 go_wp2_with fail
 go_loopw [15] (fun i wr=>∃ j:Nat,j≤ps.length∧i=.int .i64 j∧Below w.heap.size w wr∧w.heap.size<wr.heap.size∧Zcx 5 wr w.heap.size ps.length∧Zbh 5 w.heap.size (Zim (w.heap.size+1)) wr.heap.size wr (ps.take j)) (fun i _=>ps.length - (intOf i).toNat)
 case atStart=>exact ⟨0,Nat.zero_le _,rfl,hb1,hg1,hroom,by rw [List.take_zero];exact Ze5⟩
 case round =>
  obtain ⟨j,hj,rfl,hbr,hgr,hrm,hfi⟩:=hrel
  have HBR:=Zb hbr
  have HRM:=Zb hrm
  have HFI:=Zb hfi
  clear hbr hrm hfi hb1 hg1 hroom
  by_cases hlt:j<ps.length
  ·obtain ⟨bl,off,ha,hbl,hc⟩:=HP.out.resolve_left (by intro e;rw [e] at hlt;simp at hlt)
   obtain rfl:a=⟨bl,off,none⟩:=by simpa using ha
   obtain ⟨⟨xi,fr,tt,ty,xp⟩,hx⟩:∃ q,ps[j]?=some q:=⟨_,List.getElem?_eq_getElem hlt⟩
   have HX:=Zb hx
   obtain ⟨pv,⟨c0,c1,c2,c3,c4⟩,_,hp⟩:=(hc j _ hx).below (HBR.out.mono hB) hbl
   have hp0:=hp
   obtain ⟨pa,pc,rfl,_,_,_⟩:=hp
   simp only at c0 c1 c2 c3 c4 hp0
   have HV:Hid (Jc B wr (.agg #[.int .i64 xi,.int .i64 fr,.int .i64 tt,.string ty,.slice pa xp.length pc]) ⟨xi,fr,tt,ty,xp⟩):=⟨pa,pc,rfl,hp0⟩
   clear hp0
   have htx:=HT.out _ (List.mem_of_getElem? hx)
   clear hc hx ha
   go_upto_region 7 with fail
   generalize hW2:World.alloc _ _=W2
   have hr2:=Zl wr #[.int .i64 xi,.int .i64 fr,.int .i64 tt,.string ty,.slice pa xp.length pc] 49
   rw [hW2] at hr2
   have HB2:Hid (Below wr.heap.size wr W2):=by rw [← hW2];exact (Below.refl _ _).alloc (Nat.le_refl _) _
   have HC:=Zb (Zn9 _ _ B W2 (by have:=HBR.out.size;have:=HB2.out.size;omega) (HV.out.below (HB2.out.mono (by have:=HBR.out.size;omega))) htx.1 htx.2)
   have k0:=hr2.cell 0 rfl
   have k1:=hr2.cell 1 rfl
   have k2:=hr2.cell 2 rfl
   have k3:=hr2.cell 3 rfl
   have k4:=hr2.cell 4 rfl
   have hw2:=hr2.lt
   clear hW2 hr2 c0 c1 c2 c3 c4 htx
   go_wp2_with fail
   refine HC.out.mono ?_
   rintro e w3 ⟨cs3,rfl,hl3,hb3⟩
   obtain ⟨pv3,rfl,hpf⟩:=hl3
   have hpf0:=hpf
   obtain ⟨pa3,pc3,rfl,_⟩:=hpf
   have HL3:Hid (Zim W2.heap.size w3.heap.size w3 [.int .i64 xi,.int .i64 fr,.int .i64 tt,.string ty,.slice pa3 xp.length pc3] ⟨xi,fr,tt,ty,xp⟩):=⟨_,rfl,hpf0⟩
   clear hpf0
   have HBA:=Zb (Za HB2.out hb3)
   have hsz3:wr.heap.size<w3.heap.size:=by have:=hb3.size;omega
   have hrm3:=HRM.out.below HBA.out hgr
   have HR3:=Zb hrm3
   obtain ⟨u0,y0⟩:=Option.isSome_iff_exists.1 (hrm3 (j*5) (by omega)).1
   have f0:=(hrm3 (j*5) (by omega)).2
   obtain ⟨u1,y1⟩:=Option.isSome_iff_exists.1 (hrm3 (j*5+1) (by omega)).1
   have f1:=(hrm3 (j*5+1) (by omega)).2
   obtain ⟨u2,y2⟩:=Option.isSome_iff_exists.1 (hrm3 (j*5+2) (by omega)).1
   have f2:=(hrm3 (j*5+2) (by omega)).2
   obtain ⟨u3,y3⟩:=Option.isSome_iff_exists.1 (hrm3 (j*5+3) (by omega)).1
   have f3:=(hrm3 (j*5+3) (by omega)).2
   obtain ⟨u4,y4⟩:=Option.isSome_iff_exists.1 (hrm3 (j*5+4) (by omega)).1
   have f4:=(hrm3 (j*5+4) (by omega)).2
   have HL:Hid (w.heap.size+1≤W2.heap.size):=by
    show _≤_
    omega
   clear hb3 hrm3 k0 k1 k2 k3 k4 HC
   go_upto_region 8 with fail
   clear y0 f0 y1 f1 y2 f2 y3 f3 y4 f4
   generalize hW4:World.setCell _ _ _=W4
   have hW4':w3.setCells w.heap.size (j*5) [.int .i64 xi,.int .i64 fr,.int .i64 tt,.string ty,.slice pa3 xp.length pc3]=W4:=by rw [← hW4];rfl
   have HB4:Hid (Below w.heap.size w W4):=by
    rw [← hW4']
    exact Zdp (Nat.le_refl _) _ _ _ (Za HBR.out HBA.out)
   have HR4:Hid (Zcx 5 W4 w.heap.size ps.length):=by
    rw [← hW4']
    exact HR3.out.puts _ (by simp;omega)
   have HF4:Hid (Zbh 5 w.heap.size (Zim (w.heap.size+1)) W4.heap.size W4 (ps.take (j+1))):=by
    rw [← hW4',Zbz]
    exact Ze6 (n:=ps.length) (Zk1 _) HX.out hgr HBA.out HFI.out rfl (Zim.lower HL.out HL3.out) HR3.out hlt
   have hs4:w.heap.size<W4.heap.size:=by
    rw [← hW4',Zbz];omega
   clear hW4 hW4'
   go_wp2_with fail
   go_roundw
   case rel=>exact ⟨j+1,by omega,by go_num,HB4.out,hs4,HR4.out,HF4.out⟩
   case measure=>simp [intOf];omega
  ·have HF2:Hid (Zbh 5 w.heap.size (Zim (w.heap.size+1)) wr.heap.size wr ps):=by
    have:=HFI.out
    rwa [List.take_of_length_le (by omega)] at this
   go_wp2_with fail
   go_ret
   exact ⟨_,rfl,⟨_,_,rfl,Nat.le_refl _,by omega,.inr ⟨w.heap.size,rfl,Nat.le_refl _,hgr,HRM.out,HF2.out⟩⟩,HBR.out⟩
theorem Znv (n lc:Nat) (f:Value) (w:World):Calls Tryz.prog 37 #[.slice none n lc,f] w fun e w'=>e=.returned (.slice none 0 0)∧w'=w:=by
 have heq:∀ W:World,(binOp .eql 23 (.slice none n lc) (.slice none 0 0)).run Tryz.prog W=.ok (.bool true) W:=fun W=>by
  have:=Lib.run_eql_slice_nil (P:=Tryz.prog) W 23 49 none n lc 0 0 Tryz.underlying23
  simpa using this
 go_enter Tryz.func37,Tryz.ntmps37
 go_wp2_with fail
 go_ret
 exact ⟨rfl,rfl⟩
theorem Znw (v:Value) (ps:List Jj) (B:Nat) (w:World) (hB:B≤w.heap.size) (hp:Zbe B w v ps) (hn:ps.length≤2000000) (ht:(∀ x ∈ ps,x.props.length≤2000000∧∀ q ∈ x.props,q.2.total≤2000000)) :
  Calls Tryz.prog 37 #[v,.func (.func 38) #[] #[]] w fun e w'=>∃ v,e=.returned v∧Zde w.heap.size w'.heap.size w' v ps∧Below w.heap.size w w':=by
 have hp0:=hp
 obtain ⟨pa,pc,rfl,h1,h2,h3⟩:=hp
 cases pa with
 | none =>
  have h0:ps=[]:=h3.elim id fun ⟨bl,off,e,_⟩=>by cases e
  subst h0
  refine (Znv _ pc _ w).mono ?_
  rintro e w' ⟨rfl,rfl⟩
  exact ⟨_,rfl,⟨none,0,rfl,Nat.le_refl _,by omega,.inl rfl⟩,Below.refl _ _⟩
 | some a=>exact Zmj ps a pc B w hB hp0 hn ht
end
section
open Go.RowKit
set_option linter.all false
variable {P:Program} {ops:Array Oper} {Q:Exit→Act→World→Prop}
def Zm9 (P:Program) (ops:Array Oper) (Q:Exit→Act→World→Prop) (F:Nat→Value→World→Prop) (Rel:World→World→Prop) (i:Nat) (a:Act) (w:World):Prop :=
 wpOp P ops Q i (fun a' w'=>∃ v,a'=a.put (Zu ops i) v∧F i v w'∧Rel w w') a w
theorem Zdl {F:Nat→Value→World→Prop} {Rel:World→World→Prop} {i:Nat} {o:Oper} {a:Act} {w w':World} {v:Value} (ho:ops[i]?=some o) (hw:Region.wanted o (yielded ops a.tmps)=true)
  (hr:(execOp a.eval o).run P w=.ok (.value v) w') (hF:F i v w') (hb:Rel w w'):Zm9 P ops Q F Rel i a w:=by
 unfold Zm9 wpOp
 simp only [ho,hw,if_true]
 refine .inl ?_
 unfold Oper.wp
 rw [hr,Oper.upon_value]
 exact ⟨v,by simp [Zu,ho],hF,hb⟩
theorem Zdm {A:Nat→List Nat} {F:Nat→Value→World→Prop} {Rel:World→World→Prop} {base:Act} {w0:World} {id:Nat} (hbR:∀ w w':World,Below w.heap.size w w'→Rel w w') (htr:∀ a b c:World,Rel a b→Rel b c→Rel a c)
  (k:Nat) (hk:k+1=ops.size) (hkn:Zu ops k=none)
  (hm:P.follows .mixedOrders=true) (hok:Zf1 ops base.tmps.size A=true) (hdst:∀ i,i<k→∃ d,Zu ops i=some d) (hAk:∀ i,i<k→i ∈ A k)
  (ap:Nat) (hmono:∀ i v w w',F i v w→Rel w0 w→Below w.heap.size w w'→F i v w') (hmonoR:∀ i,i≠ap→∀ v w w',F i v w→Rel w0 w→Rel w w'→F i v w')
  (hop:∀ i,i<k→i≠ap→∀ a w,Zae ops base a→Rel w0 w→(∀ j ∈ A i,F j (val ops a j) w)→Zak P ops Q F i a w)
  (hap:ap<k→∀ a w,Zae ops base a→Below w0.heap.size w0 w→(∀ j ∈ A ap,F j (val ops a j) w)→Zm9 P ops Q F Rel ap a w)
  (hlast:∀ a w,Zae ops base a→Rel w0 w→(∀ i,i<k→F i (val ops a i) w)→wpOp P ops Q k (fun a' w'=>(∃ v,a'=a.put (Zu ops k) v)∧Q .normal a w') a w) :
  (Code.region id ops true).wp P Q base w0:=by
 refine Zfg (A:=A) (G:=fun _ _=>True) (S:=fun l vs w=>(l k=false→Rel w0 w∧(l ap=false→Below w0.heap.size w0 w)∧∀ i,l i=true→i<ops.size→F i (vs i) w)∧(l k=true→∀ b,Zae ops base b→(∀ i,i<ops.size→i≠k→val ops b i=vs i)→Q .normal b w)) hm hok ⟨fun _=>⟨hbR _ _ (Below.refl _ _).drew,fun _=>(Below.refl _ _).drew,fun i h=>(by cases h)⟩,fun h=>(by cases h)⟩ ?_ ?_
 ·rintro i hi l a w hS hli hcl hA ⟨hF0,hK⟩
  have hlk:l k=false:=by
   cases h:l k with
   | false=>rfl
   | true =>
    by_cases e:i=k
    ·rw [e,h] at hli;cases hli
    ·have:=hcl k h i (hAk i (by omega));rw [hli] at this;cases this
  obtain ⟨hB,hA0,hF⟩:=hF0 hlk
  by_cases e:i=k
  ·subst e
   refine wpOp_mono ?_ (hlast a w hS hB fun j hj=>hF j (hA j (hAk j hj)).1 (by omega))
   rintro a' w' ⟨⟨v,rfl⟩,hq⟩
   refine ⟨v,rfl,trivial,fun h=>?_,fun _ b hSb hv=>?_⟩
   ·rw [Zbu] at h;cases h
   ·have:b=a:=Zoe hSb hS fun j hj=>by
     by_cases ej:j=i
     ·subst ej;unfold val;rw [hkn]
     ·rw [hv j hj ej,Zai _ _ ej]
    rw [this];exact hq
  ·have hik:i<k:=by omega
   have hlt:∀ j ∈ A i,j<ops.size:=by
    have key:∀ n i,i<n→i<ops.size→∀ j ∈ A i,j<ops.size:=by
     intro n
     induction n with
     | zero=>intro i h;omega
     | succ n ih =>
      intro i h hi j hj
      obtain ⟨o,_,_,_,hlt,_,hAA⟩:=Zds hok i hi
      obtain ⟨e,he,hb,hor⟩:=hAA j hj
      have h1:=hlt e he hb
      rcases hor with rfl | h2
      ·omega
      ·exact ih e.on (by omega) (by omega) j h2
    exact key (i+1) i (by omega) hi
   obtain ⟨d,hd⟩:=hdst i hik
   obtain ⟨o,ho,hs,hdn,_,_,_⟩:=Zds hok i hi
   have hsz:d<a.tmps.size:=by rw [hS.2.1];exact hdn d (hs▸hd)
   by_cases eap:i=ap
   ·subst eap
    refine wpOp_mono ?_ (hap hik a w hS (hA0 hli) (fun j hj=>hF j (hA j hj).1 (hlt j hj)))
    rintro a' w' ⟨v,rfl,hFi,hb⟩
    have hv:=Zkt ho (hs▸hd:o.dst=some d) hsz v
    refine ⟨v,rfl,trivial,fun h=>⟨htr _ _ _ hB hb,fun h2=>(by rw [Zbu] at h2;cases h2),fun j hj hjs=>?_⟩,fun h=>?_⟩
    ·by_cases ej:j=i
     ·subst ej;rw [Zbu,hv];exact hFi
     ·rw [Zai _ _ ej] at hj ⊢
      exact hmonoR _ ej _ _ _ (hF j hj hjs) hB hb
    ·rw [Zai _ _ (Ne.symm e),hlk] at h;cases h
   ·refine wpOp_mono ?_ (hop i hik eap a w hS hB (fun j hj=>hF j (hA j hj).1 (hlt j hj)))
    rintro a' w' ⟨v,rfl,hFi,hb⟩
    have hv:=Zkt ho (hs▸hd:o.dst=some d) hsz v
    refine ⟨v,rfl,trivial,fun h=>⟨htr _ _ _ hB (hbR _ _ hb),fun h2=>(by rw [Zai _ _ (Ne.symm eap)] at h2;exact (hA0 h2).trans (hb.mono (hA0 h2).size)),fun j hj hjs=>?_⟩,fun h=>?_⟩
    ·by_cases ej:j=i
     ·subst ej;rw [Zbu,hv];exact hFi
     ·rw [Zai _ _ ej] at hj ⊢
      exact hmono _ _ _ _ (hF j hj hjs) hB hb
    ·rw [Zai _ _ (Ne.symm e),hlk] at h;cases h
 ·rintro l a w hS hall ⟨hF,hK⟩
  exact hK (hall k (by omega)).1 a hS fun _ _ _=>rfl
theorem Za5 {w w':World} {row:Option Nat} (h:Below w.heap.size w w'):w.grownBy w' row:=⟨h.os,h.tape,h.output,h.size,fun k hk _=>h.block k hk⟩
theorem Zdn {a b c:World} {row:Option Nat} (h:a.grownBy b row) (h2:b.grownBy c row):a.grownBy c row :=
 ⟨h2.os.trans h.os,h2.tape.trans h.tape,h2.output.trans h.output,Nat.le_trans h.size h2.size,fun k hk hr=>(h2.block k (Nat.lt_of_lt_of_le hk h.size) hr).trans (h.block k hk hr)⟩
theorem Zg6 {w w':World} {row:Option Nat} {B:Nat} (h:w.grownBy w' row) (hr:∀ q,row=some q→B≤q) (hB:B≤w.heap.size):Below B w w' :=
 ⟨h.os,h.tape,h.output,h.size,fun k hk=>h.block k (by omega) fun e=>by have:=hr k e.symm;omega⟩
def Zgd (row:Option Nat) (w0:World) (pr:Value→World→Prop):Prop:=∀ v w w',pr v w→w0.grownBy w row→w.grownBy w' row→pr v w'
theorem Zdo (row:Option Nat) (w0:World) (u:Value):Zgd row w0 (eqv u):=fun _ _ _ h _ _=>h
theorem Zbp {row:Option Nat} {w0:World} {fs:List (Value→World→Prop)} {ap:Nat} (h:∀ pr ∈ fs.set ap (fun _ _=>True),Zgd row w0 pr) (i:Nat) (hi:i≠ap) (v:Value) (w w':World) (hf:Zf fs i v w) (h0:w0.grownBy w row) (hg:w.grownBy w' row):Zf fs i v w':=by
 unfold Zf at *
 rw [List.getD_eq_getElem?_getD] at *
 cases hj:fs[i]? with
 | none=>trivial
 | some p =>
  rw [hj] at hf
  exact h p (List.mem_of_getElem? (i:=i) (by rw [List.getElem?_set_ne (Ne.symm hi)];exact hj)) v w w' hf h0 hg
end
section
open Go.RowKit Go.Shelf Go.WideShapes
set_option maxHeartbeats 4000000
set_option maxRecDepth 100000
set_option linter.all false
noncomputable def Zi4  : Array Oper:=Jg Tryz.f52 5
def Jf0  : List Sig:=[⟨27,.fieldAddr 25 (.tmp 3) 0,0,none⟩,⟨28,.load 22 (.tmp 27),22,none⟩,⟨29,.move (.tmp 0),153,none⟩,⟨30,.nilCheck (.tmp 29),0,none⟩,⟨31,.fieldAddr 71 (.tmp 30) 0,0,none⟩,⟨32,.load 68 (.tmp 31),68,none⟩,⟨33,.move (.tmp 5),2,none⟩,⟨34,.lookup 68 (.tmp 32) (.tmp 33) false,47,none⟩,⟨35,.buildSlice 22 1 #[(0,.tmp 34)],22,none⟩,⟨36,.call { callee:=.builtin .append,args:=#[.tmp 28,.tmp 35],argTypes:=#[22,22] },22,none⟩,⟨37,.fieldAddr 25 (.tmp 3) 0,0,none⟩]
theorem Jed  : (Jq Zi4).take Jf0.length=Jf0.map some:=by kernel_rfl
def Zio (i:Nat):List Nat:=nth [] [[],[0],[],[2],[3],[4],[],[5,6],[7],[1,8],[],[0,1,2,3,4,5,6,7,8,9,10]] i
def Zap (row:Option Nat) (w0:World) (p:GP) (id:Int) (X B0:Nat) (SV:Value) (n:Nat) (xs:List Value) (k:Int) (la:Option Addr) (ln lc:Nat) (pa:Option Addr) (pn pc:Nat):List (Value→World→Prop) :=
 [eqv (.pointer (some ⟨X,0,none⟩)),eqv (SV),eqv (.pointer (some ⟨p.g,0,none⟩)),eqv (.pointer (some ⟨p.g,0,none⟩)),eqv (.pointer (some ⟨p.g,0,none⟩)),eqv (.map (some p.n)),eqv (.int .i64 id),eqv (.agg #[.int .i64 k,.slice la ln lc,.slice pa pn pc]),fun v w=>∃ y,v=.slice (some ⟨y,0,none⟩) 1 1∧some y≠row∧Rec w y #[.int .i64 k,.slice la ln lc,.slice pa pn pc] 47,fun v w=>w.ownsRow B0 47 3 v (n+1) (xs++[.int .i64 k,.slice la ln lc,.slice pa pn pc])∧∃ a c,v=.slice a (n+1) c,eqv (.pointer (some ⟨X,0,none⟩))]
structure Zgo (row:Option Nat) (w0:World) (p:GP) (id:Int) (X B0:Nat) (SV:Value) (n:Nat) (xs:List Value) (k:Int) (la:Option Addr) (ln lc:Nat) (pa:Option Addr) (pn pc:Nat) (c:Act):Prop where
 t0:c.eval (.tmp 0)=.pointer (some ⟨p.g,0,none⟩)
 t3:c.eval (.tmp 3)=.pointer (some ⟨X,0,none⟩)
 t5:c.eval (.tmp 5)=.int .i64 id
structure Zes (row:Option Nat) (w0:World) (p:GP) (id:Int) (X B0:Nat) (SV:Value) (n:Nat) (xs:List Value) (k:Int) (la:Option Addr) (ln lc:Nat) (pa:Option Addr) (pn pc:Nat) (w:World):Prop where
 x0:w.cell? ⟨X,0,none⟩=some SV
 sl:∃ a c,SV=.slice a n c
 c0:w.cell? ⟨p.g,0,none⟩=some (.map (some p.n))
 lk:(Instr.lookup 68 (.map (some p.n)) (.int .i64 id) false).run Tryz.prog w=.ok (.agg #[.int .i64 k,.slice la ln lc,.slice pa pn pc]) w
 rb:∀ q,row=some q→q<w.heap.size
theorem Jee (row:Option Nat) (w0:World) (p:GP) (id:Int) (X B0:Nat) (SV:Value) (n:Nat) (xs:List Value) (k:Int) (la:Option Addr) (ln lc:Nat) (pa:Option Addr) (pn pc:Nat) (Q:Exit→Act→World→Prop) (c:Act) (w:World) (hb:Zgo row w0 p id X B0 SV n xs k la ln lc pa pn pc c) (hW:Zes row w0 p id X B0 SV n xs k la ln lc pa pn pc w) (hF:∀ q0 ∈ Zio 1,Zf (Zap row w0 p id X B0 SV n xs k la ln lc pa pn pc) q0 (val Zi4 c q0) w) :
  Zak Tryz.prog Zi4 Q (Zf (Zap row w0 p id X B0 SV n xs k la ln lc pa pn pc)) 1 c w:=by
 have ho:Zi4[1]?=some (⟨some 28,.load 22 (.tmp 27),22, "graph.go:128",#[⟨0,.data⟩],none⟩:Oper):=by kernel_rfl
 have e27:c.eval (.tmp 27)=.pointer (some ⟨X,0,none⟩):=Zi (by kernel_rfl) rfl (hF 0 (by decide))
 have hw:Region.wanted (⟨some 28,.load 22 (.tmp 27),22, "graph.go:128",#[⟨0,.data⟩],none⟩:Oper) (yielded Zi4 c.tmps)=true:=Zn rfl
 have ec:=evc c
 have ef:=evf c
 have x0:=hW.x0
 refine Ze ho hw (v:=SV) ?_ rfl (Below.refl _ _)
 generalize c.eval=ρ at *
 obtain ⟨sa,sc,rfl⟩:=hW.sl
 clear hF hb hW hw ho
 go_simp
theorem Jef (row:Option Nat) (w0:World) (p:GP) (id:Int) (X B0:Nat) (SV:Value) (n:Nat) (xs:List Value) (k:Int) (la:Option Addr) (ln lc:Nat) (pa:Option Addr) (pn pc:Nat) (Q:Exit→Act→World→Prop) (c:Act) (w:World) (hb:Zgo row w0 p id X B0 SV n xs k la ln lc pa pn pc c) (hW:Zes row w0 p id X B0 SV n xs k la ln lc pa pn pc w) (hF:∀ q0 ∈ Zio 8,Zf (Zap row w0 p id X B0 SV n xs k la ln lc pa pn pc) q0 (val Zi4 c q0) w) :
  Zak Tryz.prog Zi4 Q (Zf (Zap row w0 p id X B0 SV n xs k la ln lc pa pn pc)) 8 c w:=by
 have ho:Zi4[8]?=some (⟨some 35,.buildSlice 22 1 #[(0,.tmp 34)],22, "graph.go:128",#[⟨7,.data⟩],none⟩:Oper):=by kernel_rfl
 have e34:c.eval (.tmp 34)=.agg #[.int .i64 k,.slice la ln lc,.slice pa pn pc]:=Zi (by kernel_rfl) rfl (hF 7 (by decide))
 have hw:Region.wanted (⟨some 35,.buildSlice 22 1 #[(0,.tmp 34)],22, "graph.go:128",#[⟨7,.data⟩],none⟩:Oper) (yielded Zi4 c.tmps)=true:=Zn rfl
 have ec:=evc c
 have ef:=evf c
 refine Ze ho hw (v:=.slice (some ⟨w.heap.size,0,none⟩) 1 1) (w':=w.alloc (.cells #[.int .i64 k,.slice la ln lc,.slice pa pn pc] 47)) ?_ ⟨w.heap.size,rfl,fun h=>by have:=hW.rb _ h.symm;omega,Zl _ _ _⟩ ((Below.refl _ _).alloc (Nat.le_refl _) _)
 generalize c.eval=ρ at *
 clear hF hb hW hw ho
 go_simp
theorem Jeg (row:Option Nat) (w0:World) (p:GP) (id:Int) (X B0:Nat) (SV:Value) (n:Nat) (xs:List Value) (k:Int) (la:Option Addr) (ln lc:Nat) (pa:Option Addr) (pn pc:Nat) (Q:Exit→Act→World→Prop) (c:Act) (w:World) (hb:Zgo row w0 p id X B0 SV n xs k la ln lc pa pn pc c) (hW:Zes row w0 p id X B0 SV n xs k la ln lc pa pn pc w) (hO:w.ownsRow B0 47 3 SV n xs∧n≤4000000∧B0≤w.heap.size∧SV.ownBlock=row∧w0.heap.size≤w.heap.size) (hF:∀ q0 ∈ Zio 9,Zf (Zap row w0 p id X B0 SV n xs k la ln lc pa pn pc) q0 (val Zi4 c q0) w) :
  Zm9 Tryz.prog Zi4 Q (Zf (Zap row w0 p id X B0 SV n xs k la ln lc pa pn pc)) (fun a b=>a.grownBy b row) 9 c w:=by
 have ho:Zi4[9]?=some (⟨some 36,.call { callee:=.builtin .append,args:=#[.tmp 28,.tmp 35],argTypes:=#[22,22] },22, "graph.go:128",#[⟨1,.data⟩,⟨8,.data⟩],none⟩:Oper):=by kernel_rfl
 have e28:c.eval (.tmp 28)=SV:=Zi (by kernel_rfl) rfl (hF 1 (by decide))
 have f35:(fun v w=>∃ y,v=.slice (some ⟨y,0,none⟩) 1 1∧some y≠row∧Rec w y #[.int .i64 k,.slice la ln lc,.slice pa pn pc] 47) (c.eval (.tmp 35)) w:=Je (by kernel_rfl) rfl (hF 8 (by decide))
 have hw:Region.wanted (⟨some 36,.call { callee:=.builtin .append,args:=#[.tmp 28,.tmp 35],argTypes:=#[22,22] },22, "graph.go:128",#[⟨1,.data⟩,⟨8,.data⟩],none⟩:Oper) (yielded Zi4 c.tmps)=true:=Zn rfl
 have ec:=evc c
 have ef:=evf c
 obtain ⟨i0,hi,hz0,hz1,hz2⟩:=info_parts Tryz.info47
 obtain ⟨y,e35,hyr,hy⟩:=f35
 obtain ⟨h1,h2,h3,h4,h5⟩:=hO
 obtain ⟨v',w',hrun,hown,hgr,_,hbl⟩:=run_append_own_at (P:=Tryz.prog) w B0 22 22 47 i0 (.agg #[.int .i64 0,.slice none 0 0,.slice none 0 0]) 3 56 Tryz.underlying22 hi hz0 hz1 hz2 rfl (by decide) SV n xs h1 ⟨y,0,none⟩ 1 1 [.int .i64 k,.slice la ln lc,.slice pa pn pc] rfl (fun j u hj=>by
  have hadd:(⟨y,0,none⟩:Addr).add j=⟨y,j,none⟩:=by unfold Addr.add;split<;>simp_all
  rw [hadd]
  exact hy.cell j (by simpa using hj)) (by intro u hu;simp only [List.mem_cons,List.not_mem_nil,or_false] at hu;rcases hu with rfl | rfl | rfl<;>rfl) (by unfold maxLen;omega) (by omega) h3
 obtain ⟨ua,uc,rfl⟩:=Zw hown
 refine Zdl ho hw (v:=.slice ua (n+1) uc) (w':=w') ?_ ⟨hown,ua,uc,rfl⟩ (h4▸hgr)
 exact Zb0 e28 e35 hrun
theorem Zvl (row:Option Nat) (w0:World) (p:GP) (id:Int) (X B0:Nat) (SV:Value) (n:Nat) (xs:List Value) (k:Int) (la:Option Addr) (ln lc:Nat) (pa:Option Addr) (pn pc:Nat):∀ pr ∈ Zap row w0 p id X B0 SV n xs k la ln lc pa pn pc,Zbv pr:=by
 unfold Zap
 iterate 11 (first | refine List.forall_mem_cons.2 ⟨Jb _,?_⟩ | refine List.forall_mem_cons.2 ⟨fun v w w' ⟨y,h,hy,hr⟩ hb=>⟨y,h,hy,hr.below hb hr.lt⟩,?_⟩ | refine List.forall_mem_cons.2 ⟨fun v w w' ⟨h,h2⟩ hb=>⟨Zt h fun g _ hg=>hb.block g hg,h2⟩,?_⟩)
 exact List.forall_mem_nil _
theorem Zrj (row:Option Nat) (w0:World) (p:GP) (id:Int) (X B0:Nat) (SV:Value) (n:Nat) (xs:List Value) (k:Int) (la:Option Addr) (ln lc:Nat) (pa:Option Addr) (pn pc:Nat):∀ pr ∈ (Zap row w0 p id X B0 SV n xs k la ln lc pa pn pc).set 9 (fun _ _=>True),Zgd row w0 pr:=by
 unfold Zap
 simp only [List.set_cons_succ,List.set_cons_zero]
 iterate 11 (first | refine List.forall_mem_cons.2 ⟨Zdo _ _ _,?_⟩ | refine List.forall_mem_cons.2 ⟨fun _ _ _ _ _ _=>trivial,?_⟩ | refine List.forall_mem_cons.2 ⟨fun v w w' ⟨y,h,hy,hr⟩ _ hg=>⟨y,h,hy,hr.keep (hg.block y hr.lt hy)⟩,?_⟩)
 exact List.forall_mem_nil _
theorem Jeh (row:Option Nat) (w0:World) (p:GP) (id:Int) (X B0:Nat) (SV:Value) (n:Nat) (xs:List Value) (k:Int) (la:Option Addr) (ln lc:Nat) (pa:Option Addr) (pn pc:Nat) (Q:Exit→Act→World→Prop):∀ i,i<11→(fun i=>i ∉ ([1,8,9]:List Nat)→∀ c w,Zgo row w0 p id X B0 SV n xs k la ln lc pa pn pc c→Zes row w0 p id X B0 SV n xs k la ln lc pa pn pc w→(∀ q0 ∈ Zio i,Zf (Zap row w0 p id X B0 SV n xs k la ln lc pa pn pc) q0 (val Zi4 c q0) w)→Zak Tryz.prog Zi4 Q (Zf (Zap row w0 p id X B0 SV n xs k la ln lc pa pn pc)) i c w) i:=by
 iterate 11 (refine Zd ?_ (by
  intro hn c w hb hW hF
  first
  | exact absurd (by decide) hn
  | (have hEq:=Zag Jed (by decide) hF
     refine Zar Jed (by decide) rfl (fun _=>rfl) ?_
     obtain ⟨t0,t3,t5⟩:=hb
     obtain ⟨x0,sl,c0,lk,rb⟩:=hW
     have ec:=evc c
     have ef:=evf c
     dsimp only [Zio,Jf0,Zap,nth,Zcp,Zbd,eqv] at hEq ⊢
     refine .inl fun pos af=>?_
     clear hF hn
     dsimp only [Sig.oper]
     generalize c.eval=ρ at *
     go_simp
     done)))
 exact Zj
theorem Jei (row:Option Nat) (w0:World) (p:GP) (id:Int) (X B0:Nat) (SV:Value) (n:Nat) (xs:List Value) (k:Int) (la:Option Addr) (ln lc:Nat) (pa:Option Addr) (pn pc:Nat) (Q:Exit→Act→World→Prop):∀ i,i<11→(fun i=>i≠9→∀ c w,Zgo row w0 p id X B0 SV n xs k la ln lc pa pn pc c→Zes row w0 p id X B0 SV n xs k la ln lc pa pn pc w→(∀ q0 ∈ Zio i,Zf (Zap row w0 p id X B0 SV n xs k la ln lc pa pn pc) q0 (val Zi4 c q0) w)→Zak Tryz.prog Zi4 Q (Zf (Zap row w0 p id X B0 SV n xs k la ln lc pa pn pc)) i c w) i:=by
 intro i hi hne
 by_cases h1:i=1
 ·subst h1;exact fun c w=>Jee row w0 p id X B0 SV n xs k la ln lc pa pn pc Q c w
 by_cases h8:i=8
 ·subst h8;exact fun c w=>Jef row w0 p id X B0 SV n xs k la ln lc pa pn pc Q c w
 exact Jeh row w0 p id X B0 SV n xs k la ln lc pa pn pc Q i hi (by simp [*])
theorem Zvm (row:Option Nat) (w0:World) (p:GP) (id:Int) (X B0:Nat) (SV:Value) (n:Nat) (xs:List Value) (k:Int) (la:Option Addr) (ln lc:Nat) (pa:Option Addr) (pn pc:Nat) (Q:Exit→Act→World→Prop) (base:Act) (hsz:base.tmps.size=62) (hb:Zgo row w0 p id X B0 SV n xs k la ln lc pa pn pc base)
  (hW:∀ w,w0.grownBy w row→Zes row w0 p id X B0 SV n xs k la ln lc pa pn pc w) (hO:∀ w,Below w0.heap.size w0 w→w.ownsRow B0 47 3 SV n xs∧n≤4000000∧B0≤w.heap.size∧SV.ownBlock=row∧w0.heap.size≤w.heap.size) (hL:∀ c w,Zae Zi4 base c→w0.grownBy w row→(fun v w=>w.ownsRow B0 47 3 v (n+1) (xs++[.int .i64 k,.slice la ln lc,.slice pa pn pc])∧∃ a c,v=.slice a (n+1) c) (c.eval (.tmp 36)) w→c.eval (.tmp 37)=.pointer (some ⟨X,0,none⟩)→∃ w',(execOp c.eval (⟨none,.store 22 (.tmp 37) (.tmp 36),0, "graph.go:128",#[⟨10,.data⟩,⟨9,.data⟩,⟨9,.chain⟩,⟨0,.phase⟩,⟨1,.phase⟩,⟨2,.phase⟩,⟨3,.phase⟩,⟨4,.phase⟩,⟨5,.phase⟩,⟨6,.phase⟩,⟨7,.phase⟩,⟨8,.phase⟩,⟨9,.phase⟩],none⟩:Oper)).run Tryz.prog w=.ok .skip w'∧Q .normal c w'):(Code.region 5 Zi4 true).wp Tryz.prog Q base w0:=by
 have hall:(List.range 11).all (fun i=>(Zu Zi4 i).isSome)=true:=by kernel_rfl
 refine Zdm (A:=Zio) (F:=Zf (Zap row w0 p id X B0 SV n xs k la ln lc pa pn pc)) (Rel:=fun a b=>a.grownBy b row) (fun _ _ h=>Za5 h) (fun _ _ _ h1 h2=>Zdn h1 h2) 11 (by kernel_rfl) (by kernel_rfl) (by kernel_rfl) (by rw [hsz];kernel_rfl) ?_ (by decide) 9 (fun i v w w' hf _ hb=>Jd (Zvl row w0 p id X B0 SV n xs k la ln lc pa pn pc) i v w w' hf hb) (fun i hi v w w'=>Zbp (Zrj row w0 p id X B0 SV n xs k la ln lc pa pn pc) i hi v w w') ?_ ?_ ?_
 ·exact fun i hi=>Option.isSome_iff_exists.1 (List.all_eq_true.1 hall i (List.mem_range.2 hi))
 ·intro i hi hne c w hS hB hF
  exact Jei row w0 p id X B0 SV n xs k la ln lc pa pn pc Q i hi hne c w ⟨(Zc hS (by kernel_rfl)).trans hb.t0,(Zc hS (by kernel_rfl)).trans hb.t3,(Zc hS (by kernel_rfl)).trans hb.t5⟩ (hW w hB) hF
 ·intro hi c w hS hB hF
  exact Jeg row w0 p id X B0 SV n xs k la ln lc pa pn pc Q c w ⟨(Zc hS (by kernel_rfl)).trans hb.t0,(Zc hS (by kernel_rfl)).trans hb.t3,(Zc hS (by kernel_rfl)).trans hb.t5⟩ (hW w (Za5 hB)) (hO w hB) hF
 ·intro c w hS hB hF
  obtain ⟨w',h1,h2⟩:=hL c w hS hB (Je (p:=fun v w=>w.ownsRow B0 47 3 v (n+1) (xs++[.int .i64 k,.slice la ln lc,.slice pa pn pc])∧∃ a c,v=.slice a (n+1) c) (by kernel_rfl) rfl (hF 9 (by omega))) (Je (p:=eqv (.pointer (some ⟨X,0,none⟩))) (by kernel_rfl) rfl (hF 10 (by omega)))
  exact Za6 (by kernel_rfl) (Zn rfl) h1 h2
noncomputable def Zc9  : Array Oper:=Jg Tryz.f52 10
def Jaw  : List Sig:=[⟨49,.fieldAddr 25 (.tmp 3) 1,0,none⟩,⟨50,.load 23 (.tmp 49),23,none⟩,⟨51,.move (.tmp 0),153,none⟩,⟨52,.nilCheck (.tmp 51),0,none⟩,⟨53,.fieldAddr 71 (.tmp 52) 1,0,none⟩,⟨54,.load 69 (.tmp 53),69,none⟩,⟨55,.move (.tmp 7),2,none⟩,⟨56,.lookup 69 (.tmp 54) (.tmp 55) false,49,none⟩,⟨57,.buildSlice 23 1 #[(0,.tmp 56)],23,none⟩,⟨58,.call { callee:=.builtin .append,args:=#[.tmp 50,.tmp 57],argTypes:=#[23,23] },23,none⟩,⟨59,.fieldAddr 25 (.tmp 3) 1,0,none⟩]
theorem Zy8  : (Jq Zc9).take Jaw.length=Jaw.map some:=by kernel_rfl
def Zfj (i:Nat):List Nat:=nth [] [[],[0],[],[2],[3],[4],[],[5,6],[7],[1,8],[],[0,1,2,3,4,5,6,7,8,9,10]] i
def Zaa (row:Option Nat) (w0:World) (p:GP) (id:Int) (X B0:Nat) (SV:Value) (n:Nat) (xs:List Value) (k f t:Int) (s:ByteArray) (pa:Option Addr) (pn pc:Nat):List (Value→World→Prop) :=
 [eqv (.pointer (some ⟨X,1,none⟩)),eqv (SV),eqv (.pointer (some ⟨p.g,0,none⟩)),eqv (.pointer (some ⟨p.g,0,none⟩)),eqv (.pointer (some ⟨p.g,1,none⟩)),eqv (.map (some p.r)),eqv (.int .i64 id),eqv (.agg #[.int .i64 k,.int .i64 f,.int .i64 t,.string s,.slice pa pn pc]),fun v w=>∃ y,v=.slice (some ⟨y,0,none⟩) 1 1∧some y≠row∧Rec w y #[.int .i64 k,.int .i64 f,.int .i64 t,.string s,.slice pa pn pc] 49,fun v w=>w.ownsRow B0 49 5 v (n+1) (xs++[.int .i64 k,.int .i64 f,.int .i64 t,.string s,.slice pa pn pc])∧∃ a c,v=.slice a (n+1) c,eqv (.pointer (some ⟨X,1,none⟩))]
structure Zet (row:Option Nat) (w0:World) (p:GP) (id:Int) (X B0:Nat) (SV:Value) (n:Nat) (xs:List Value) (k f t:Int) (s:ByteArray) (pa:Option Addr) (pn pc:Nat) (c:Act):Prop where
 t0:c.eval (.tmp 0)=.pointer (some ⟨p.g,0,none⟩)
 t3:c.eval (.tmp 3)=.pointer (some ⟨X,0,none⟩)
 t7:c.eval (.tmp 7)=.int .i64 id
structure Zdi (row:Option Nat) (w0:World) (p:GP) (id:Int) (X B0:Nat) (SV:Value) (n:Nat) (xs:List Value) (k f t:Int) (s:ByteArray) (pa:Option Addr) (pn pc:Nat) (w:World):Prop where
 x0:w.cell? ⟨X,1,none⟩=some SV
 sl:∃ a c,SV=.slice a n c
 c0:w.cell? ⟨p.g,1,none⟩=some (.map (some p.r))
 lk:(Instr.lookup 69 (.map (some p.r)) (.int .i64 id) false).run Tryz.prog w=.ok (.agg #[.int .i64 k,.int .i64 f,.int .i64 t,.string s,.slice pa pn pc]) w
 rb:∀ q,row=some q→q<w.heap.size
theorem Jax (row:Option Nat) (w0:World) (p:GP) (id:Int) (X B0:Nat) (SV:Value) (n:Nat) (xs:List Value) (k f t:Int) (s:ByteArray) (pa:Option Addr) (pn pc:Nat) (Q:Exit→Act→World→Prop) (c:Act) (w:World) (hb:Zet row w0 p id X B0 SV n xs k f t s pa pn pc c) (hW:Zdi row w0 p id X B0 SV n xs k f t s pa pn pc w) (hF:∀ q0 ∈ Zfj 1,Zf (Zaa row w0 p id X B0 SV n xs k f t s pa pn pc) q0 (val Zc9 c q0) w) :
  Zak Tryz.prog Zc9 Q (Zf (Zaa row w0 p id X B0 SV n xs k f t s pa pn pc)) 1 c w:=by
 have ho:Zc9[1]?=some (⟨some 50,.load 23 (.tmp 49),23, "graph.go:131",#[⟨0,.data⟩],none⟩:Oper):=by kernel_rfl
 have e49:c.eval (.tmp 49)=.pointer (some ⟨X,1,none⟩):=Zi (by kernel_rfl) rfl (hF 0 (by decide))
 have hw:Region.wanted (⟨some 50,.load 23 (.tmp 49),23, "graph.go:131",#[⟨0,.data⟩],none⟩:Oper) (yielded Zc9 c.tmps)=true:=Zn rfl
 have ec:=evc c
 have ef:=evf c
 have x0:=hW.x0
 refine Ze ho hw (v:=SV) ?_ rfl (Below.refl _ _)
 generalize c.eval=ρ at *
 obtain ⟨sa,sc,rfl⟩:=hW.sl
 clear hF hb hW hw ho
 go_simp
theorem Jay (row:Option Nat) (w0:World) (p:GP) (id:Int) (X B0:Nat) (SV:Value) (n:Nat) (xs:List Value) (k f t:Int) (s:ByteArray) (pa:Option Addr) (pn pc:Nat) (Q:Exit→Act→World→Prop) (c:Act) (w:World) (hb:Zet row w0 p id X B0 SV n xs k f t s pa pn pc c) (hW:Zdi row w0 p id X B0 SV n xs k f t s pa pn pc w) (hF:∀ q0 ∈ Zfj 8,Zf (Zaa row w0 p id X B0 SV n xs k f t s pa pn pc) q0 (val Zc9 c q0) w) :
  Zak Tryz.prog Zc9 Q (Zf (Zaa row w0 p id X B0 SV n xs k f t s pa pn pc)) 8 c w:=by
 have ho:Zc9[8]?=some (⟨some 57,.buildSlice 23 1 #[(0,.tmp 56)],23, "graph.go:131",#[⟨7,.data⟩],none⟩:Oper):=by kernel_rfl
 have e56:c.eval (.tmp 56)=.agg #[.int .i64 k,.int .i64 f,.int .i64 t,.string s,.slice pa pn pc]:=Zi (by kernel_rfl) rfl (hF 7 (by decide))
 have hw:Region.wanted (⟨some 57,.buildSlice 23 1 #[(0,.tmp 56)],23, "graph.go:131",#[⟨7,.data⟩],none⟩:Oper) (yielded Zc9 c.tmps)=true:=Zn rfl
 have ec:=evc c
 have ef:=evf c
 refine Ze ho hw (v:=.slice (some ⟨w.heap.size,0,none⟩) 1 1) (w':=w.alloc (.cells #[.int .i64 k,.int .i64 f,.int .i64 t,.string s,.slice pa pn pc] 49)) ?_ ⟨w.heap.size,rfl,fun h=>by have:=hW.rb _ h.symm;omega,Zl _ _ _⟩ ((Below.refl _ _).alloc (Nat.le_refl _) _)
 generalize c.eval=ρ at *
 clear hF hb hW hw ho
 go_simp
theorem Jaz (row:Option Nat) (w0:World) (p:GP) (id:Int) (X B0:Nat) (SV:Value) (n:Nat) (xs:List Value) (k f t:Int) (s:ByteArray) (pa:Option Addr) (pn pc:Nat) (Q:Exit→Act→World→Prop) (c:Act) (w:World) (hb:Zet row w0 p id X B0 SV n xs k f t s pa pn pc c) (hW:Zdi row w0 p id X B0 SV n xs k f t s pa pn pc w) (hO:w.ownsRow B0 49 5 SV n xs∧n≤4000000∧B0≤w.heap.size∧SV.ownBlock=row∧w0.heap.size≤w.heap.size) (hF:∀ q0 ∈ Zfj 9,Zf (Zaa row w0 p id X B0 SV n xs k f t s pa pn pc) q0 (val Zc9 c q0) w) :
  Zm9 Tryz.prog Zc9 Q (Zf (Zaa row w0 p id X B0 SV n xs k f t s pa pn pc)) (fun a b=>a.grownBy b row) 9 c w:=by
 have ho:Zc9[9]?=some (⟨some 58,.call { callee:=.builtin .append,args:=#[.tmp 50,.tmp 57],argTypes:=#[23,23] },23, "graph.go:131",#[⟨1,.data⟩,⟨8,.data⟩],none⟩:Oper):=by kernel_rfl
 have e50:c.eval (.tmp 50)=SV:=Zi (by kernel_rfl) rfl (hF 1 (by decide))
 have f57:(fun v w=>∃ y,v=.slice (some ⟨y,0,none⟩) 1 1∧some y≠row∧Rec w y #[.int .i64 k,.int .i64 f,.int .i64 t,.string s,.slice pa pn pc] 49) (c.eval (.tmp 57)) w:=Je (by kernel_rfl) rfl (hF 8 (by decide))
 have hw:Region.wanted (⟨some 58,.call { callee:=.builtin .append,args:=#[.tmp 50,.tmp 57],argTypes:=#[23,23] },23, "graph.go:131",#[⟨1,.data⟩,⟨8,.data⟩],none⟩:Oper) (yielded Zc9 c.tmps)=true:=Zn rfl
 have ec:=evc c
 have ef:=evf c
 obtain ⟨i0,hi,hz0,hz1,hz2⟩:=info_parts Tryz.info49'
 obtain ⟨y,e57,hyr,hy⟩:=f57
 obtain ⟨h1,h2,h3,h4,h5⟩:=hO
 obtain ⟨v',w',hrun,hown,hgr,_,hbl⟩:=run_append_own_at (P:=Tryz.prog) w B0 23 23 49 i0 (.agg #[.int .i64 0,.int .i64 0,.int .i64 0,.string ⟨#[]⟩,.slice none 0 0]) 5 64 Tryz.underlying23 hi hz0 hz1 hz2 rfl (by decide) SV n xs h1 ⟨y,0,none⟩ 1 1 [.int .i64 k,.int .i64 f,.int .i64 t,.string s,.slice pa pn pc] rfl (fun j u hj=>by
  have hadd:(⟨y,0,none⟩:Addr).add j=⟨y,j,none⟩:=by unfold Addr.add;split<;>simp_all
  rw [hadd]
  exact hy.cell j (by simpa using hj)) (by intro u hu;simp only [List.mem_cons,List.not_mem_nil,or_false] at hu;rcases hu with rfl | rfl | rfl | rfl | rfl<;>rfl) (by unfold maxLen;omega) (by omega) h3
 obtain ⟨ua,uc,rfl⟩:=Zw hown
 refine Zdl ho hw (v:=.slice ua (n+1) uc) (w':=w') ?_ ⟨hown,ua,uc,rfl⟩ (h4▸hgr)
 exact Zb0 e50 e57 hrun
theorem Zrk (row:Option Nat) (w0:World) (p:GP) (id:Int) (X B0:Nat) (SV:Value) (n:Nat) (xs:List Value) (k f t:Int) (s:ByteArray) (pa:Option Addr) (pn pc:Nat):∀ pr ∈ Zaa row w0 p id X B0 SV n xs k f t s pa pn pc,Zbv pr:=by
 unfold Zaa
 iterate 11 (first | refine List.forall_mem_cons.2 ⟨Jb _,?_⟩ | refine List.forall_mem_cons.2 ⟨fun v w w' ⟨y,h,hy,hr⟩ hb=>⟨y,h,hy,hr.below hb hr.lt⟩,?_⟩ | refine List.forall_mem_cons.2 ⟨fun v w w' ⟨h,h2⟩ hb=>⟨Zt h fun g _ hg=>hb.block g hg,h2⟩,?_⟩)
 exact List.forall_mem_nil _
theorem Zof (row:Option Nat) (w0:World) (p:GP) (id:Int) (X B0:Nat) (SV:Value) (n:Nat) (xs:List Value) (k f t:Int) (s:ByteArray) (pa:Option Addr) (pn pc:Nat):∀ pr ∈ (Zaa row w0 p id X B0 SV n xs k f t s pa pn pc).set 9 (fun _ _=>True),Zgd row w0 pr:=by
 unfold Zaa
 simp only [List.set_cons_succ,List.set_cons_zero]
 iterate 11 (first | refine List.forall_mem_cons.2 ⟨Zdo _ _ _,?_⟩ | refine List.forall_mem_cons.2 ⟨fun _ _ _ _ _ _=>trivial,?_⟩ | refine List.forall_mem_cons.2 ⟨fun v w w' ⟨y,h,hy,hr⟩ _ hg=>⟨y,h,hy,hr.keep (hg.block y hr.lt hy)⟩,?_⟩)
 exact List.forall_mem_nil _
theorem Ja0 (row:Option Nat) (w0:World) (p:GP) (id:Int) (X B0:Nat) (SV:Value) (n:Nat) (xs:List Value) (k f t:Int) (s:ByteArray) (pa:Option Addr) (pn pc:Nat) (Q:Exit→Act→World→Prop):∀ i,i<11→(fun i=>i ∉ ([1,8,9]:List Nat)→∀ c w,Zet row w0 p id X B0 SV n xs k f t s pa pn pc c→Zdi row w0 p id X B0 SV n xs k f t s pa pn pc w→(∀ q0 ∈ Zfj i,Zf (Zaa row w0 p id X B0 SV n xs k f t s pa pn pc) q0 (val Zc9 c q0) w)→Zak Tryz.prog Zc9 Q (Zf (Zaa row w0 p id X B0 SV n xs k f t s pa pn pc)) i c w) i:=by
 iterate 11 (refine Zd ?_ (by
  intro hn c w hb hW hF
  first
  | exact absurd (by decide) hn
  | (have hEq:=Zag Zy8 (by decide) hF
     refine Zar Zy8 (by decide) rfl (fun _=>rfl) ?_
     obtain ⟨t0,t3,t7⟩:=hb
     obtain ⟨x0,sl,c0,lk,rb⟩:=hW
     have ec:=evc c
     have ef:=evf c
     dsimp only [Zfj,Jaw,Zaa,nth,Zcp,Zbd,eqv] at hEq ⊢
     refine .inl fun pos af=>?_
     clear hF hn
     dsimp only [Sig.oper]
     generalize c.eval=ρ at *
     go_simp
     done)))
 exact Zj
theorem Ja1 (row:Option Nat) (w0:World) (p:GP) (id:Int) (X B0:Nat) (SV:Value) (n:Nat) (xs:List Value) (k f t:Int) (s:ByteArray) (pa:Option Addr) (pn pc:Nat) (Q:Exit→Act→World→Prop):∀ i,i<11→(fun i=>i≠9→∀ c w,Zet row w0 p id X B0 SV n xs k f t s pa pn pc c→Zdi row w0 p id X B0 SV n xs k f t s pa pn pc w→(∀ q0 ∈ Zfj i,Zf (Zaa row w0 p id X B0 SV n xs k f t s pa pn pc) q0 (val Zc9 c q0) w)→Zak Tryz.prog Zc9 Q (Zf (Zaa row w0 p id X B0 SV n xs k f t s pa pn pc)) i c w) i:=by
 intro i hi hne
 by_cases h1:i=1
 ·subst h1;exact fun c w=>Jax row w0 p id X B0 SV n xs k f t s pa pn pc Q c w
 by_cases h8:i=8
 ·subst h8;exact fun c w=>Jay row w0 p id X B0 SV n xs k f t s pa pn pc Q c w
 exact Ja0 row w0 p id X B0 SV n xs k f t s pa pn pc Q i hi (by simp [*])
theorem Zrl (row:Option Nat) (w0:World) (p:GP) (id:Int) (X B0:Nat) (SV:Value) (n:Nat) (xs:List Value) (k f t:Int) (s:ByteArray) (pa:Option Addr) (pn pc:Nat) (Q:Exit→Act→World→Prop) (base:Act) (hsz:base.tmps.size=62) (hb:Zet row w0 p id X B0 SV n xs k f t s pa pn pc base)
  (hW:∀ w,w0.grownBy w row→Zdi row w0 p id X B0 SV n xs k f t s pa pn pc w) (hO:∀ w,Below w0.heap.size w0 w→w.ownsRow B0 49 5 SV n xs∧n≤4000000∧B0≤w.heap.size∧SV.ownBlock=row∧w0.heap.size≤w.heap.size) (hL:∀ c w,Zae Zc9 base c→w0.grownBy w row→(fun v w=>w.ownsRow B0 49 5 v (n+1) (xs++[.int .i64 k,.int .i64 f,.int .i64 t,.string s,.slice pa pn pc])∧∃ a c,v=.slice a (n+1) c) (c.eval (.tmp 58)) w→c.eval (.tmp 59)=.pointer (some ⟨X,1,none⟩)→∃ w',(execOp c.eval (⟨none,.store 23 (.tmp 59) (.tmp 58),0, "graph.go:131",#[⟨10,.data⟩,⟨9,.data⟩,⟨9,.chain⟩,⟨0,.phase⟩,⟨1,.phase⟩,⟨2,.phase⟩,⟨3,.phase⟩,⟨4,.phase⟩,⟨5,.phase⟩,⟨6,.phase⟩,⟨7,.phase⟩,⟨8,.phase⟩,⟨9,.phase⟩],none⟩:Oper)).run Tryz.prog w=.ok .skip w'∧Q .normal c w'):(Code.region 10 Zc9 true).wp Tryz.prog Q base w0:=by
 have hall:(List.range 11).all (fun i=>(Zu Zc9 i).isSome)=true:=by kernel_rfl
 refine Zdm (A:=Zfj) (F:=Zf (Zaa row w0 p id X B0 SV n xs k f t s pa pn pc)) (Rel:=fun a b=>a.grownBy b row) (fun _ _ h=>Za5 h) (fun _ _ _ h1 h2=>Zdn h1 h2) 11 (by kernel_rfl) (by kernel_rfl) (by kernel_rfl) (by rw [hsz];kernel_rfl) ?_ (by decide) 9 (fun i v w w' hf _ hb=>Jd (Zrk row w0 p id X B0 SV n xs k f t s pa pn pc) i v w w' hf hb) (fun i hi v w w'=>Zbp (Zof row w0 p id X B0 SV n xs k f t s pa pn pc) i hi v w w') ?_ ?_ ?_
 ·exact fun i hi=>Option.isSome_iff_exists.1 (List.all_eq_true.1 hall i (List.mem_range.2 hi))
 ·intro i hi hne c w hS hB hF
  exact Ja1 row w0 p id X B0 SV n xs k f t s pa pn pc Q i hi hne c w ⟨(Zc hS (by kernel_rfl)).trans hb.t0,(Zc hS (by kernel_rfl)).trans hb.t3,(Zc hS (by kernel_rfl)).trans hb.t7⟩ (hW w hB) hF
 ·intro hi c w hS hB hF
  exact Jaz row w0 p id X B0 SV n xs k f t s pa pn pc Q c w ⟨(Zc hS (by kernel_rfl)).trans hb.t0,(Zc hS (by kernel_rfl)).trans hb.t3,(Zc hS (by kernel_rfl)).trans hb.t7⟩ (hW w (Za5 hB)) (hO w hB) hF
 ·intro c w hS hB hF
  obtain ⟨w',h1,h2⟩:=hL c w hS hB (Je (p:=fun v w=>w.ownsRow B0 49 5 v (n+1) (xs++[.int .i64 k,.int .i64 f,.int .i64 t,.string s,.slice pa pn pc])∧∃ a c,v=.slice a (n+1) c) (by kernel_rfl) rfl (hF 9 (by omega))) (Je (p:=eqv (.pointer (some ⟨X,1,none⟩))) (by kernel_rfl) rfl (hF 10 (by omega)))
  exact Za6 (by kernel_rfl) (Zn rfl) h1 h2
end
