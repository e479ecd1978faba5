import Derived.Test.YteddjlbfbpecjaaGreatDoorJoin18
import Derived.Laws.AppendOwn
namespace Go.Proofs.YteddjlbfbpecjaaGreatDoor
set_option maxHeartbeats 4000000
set_option maxRecDepth 100000
set_option linter.all false
section
open Go.RowKit Go.Shelf
attribute [local go_sem] Oper.semAt_some
theorem Tryz.info49'  : (Tryz.prog.info? 49).map (fun i=>(i.zero,i.size,i.bytes))=some (some (.agg #[.int .i64 0,.int .i64 0,.int .i64 0,.string ⟨#[]⟩,.slice none 0 0]),5,64):=by kernel_rfl
theorem Zdf.lower {lo a5 B:Nat} {w:World} {cs:List Value} {n:Zo} (h:a5<=lo) (H:Zdf lo B w cs n):Zdf a5 B w cs n:=by
 obtain ⟨la,lc,pv,e,hs,hk,s⟩:=H
 exact ⟨la,lc,pv,e,hs,hk.mono h (Nat.le_refl _),s.mono h (Nat.le_refl _)⟩
theorem Zgn.lower {lo a5 B:Nat} {w:World} {cs:List Value} {n:Jg} (h:a5<=lo) (H:Zgn lo B w cs n):Zgn a5 B w cs n:=by
 obtain ⟨pv,e,s⟩:=H
 exact ⟨pv,e,s.mono h (Nat.le_refl _)⟩
def Zcd (lo B:Nat) (w:World) (v:Value) (ps:List Zo):Prop :=
 ∃ y d,v=.slice y ps.length d/\ps.length<=d/\d<=9223372036854775807/\(ps=[]\/∃ g,y=some ⟨g,0,none⟩/\lo<=g/\g<B/\Zc5 3 w g ps.length/\Zbk 3 g (Zdf (g+1)) B w ps)
theorem Zod (ps:List Zo) (a:Addr) (d B:Nat) (w:World) (hB:B<=w.heap.size) (s:Jj B w (.slice (some a) ps.length d) ps) (H:ps.length<=2000000) (ht:(∀ x ∈ ps,x.labels.length<=2000000/\x.props.length<=2000000/\∀ q ∈ x.props,q.2.total<=2000000)) :
  Calls Tryz.prog 35 #[.slice (some a) ps.length d,.func (.func 36) #[] #[]] w fun e w'=>∃ v,e=.returned v/\Zcd w.heap.size w'.heap.size w' v ps/\Below w.heap.size w w':=by
 obtain ⟨a6,a9,e1,h1,h2,T⟩:=s
 obtain ⟨rfl,rfl⟩:some a=a6/\d=a9:=by injection e1 with e1 _ e2;exact ⟨e1,e2⟩
 obtain ⟨i0,hi,a2,F,X⟩:=info_parts Tryz.info47
 have b0:∀ W:World,(Instr.makeSlice 22 (.int .i64 (ps.length:Int)) (.int .i64 (ps.length:Int))).run Tryz.prog W=.ok (.slice (some ⟨W.heap.size,0,none⟩) ps.length ps.length) (W.alloc (.cells (madeCells #[.int .i64 0,.slice none 0 0,.slice none 0 0] (ps.length*3)) 47)):=fun W=>by
  have:=run_makeSlice (P:=Tryz.prog) W 22 47 i0 _ Tryz.underlying22 hi a2 .i64 .i64 (ps.length:Int) (ps.length:Int) (by omega) (by omega) (by rw [F];omega) (by rw [X];omega) (by omega)
  simpa [F,Value.cells] using this
 have a4:∀ W:World,(binOp .eql 22 (.slice (some a) ps.length d) (.slice none 0 0)).run Tryz.prog W=.ok (.bool false) W:=fun W=>by
  have:=Lib.run_eql_slice_nil (P:=Tryz.prog) W 22 47 (some a) ps.length d 0 0 Tryz.underlying22
  simpa using this
 obtain ⟨Y,r⟩:∃ Y,w.alloc (.cells (madeCells #[.int .i64 0,.slice none 0 0,.slice none 0 0] (ps.length*3)) 47)=Y:=⟨_,rfl⟩
 have N:Below w.heap.size w Y:=r▸(Below.refl _ _).alloc (Nat.le_refl _) _
 have S:w.heap.size<Y.heap.size:=by rw [<- r];simp
 have m:Zc5 3 Y w.heap.size ps.length:=by
  intro o ho
  rw [<- r]
  have hs:(madeCells #[.int .i64 0,.slice none 0 0,.slice none 0 0] (ps.length*3)).size=ps.length*3:=size_madeCells _ _
  refine ⟨?_,?_⟩
  ·rw [Zaj _ _ _ o _ (Array.getElem?_eq_getElem (by rw [hs];exact ho))];rfl
  ·have H:=World.alloc_heap_new w (.cells (madeCells #[.int .i64 0,.slice none 0 0,.slice none 0 0] (ps.length*3)) 47)
   unfold World.frozen?
   simp only [H]
   simp
 have HP:=Zb T
 have HT:=Zb ht
 have a1:=Zb r
 clear T ht r hi a2 F X e1
 go_enter Tryz.func35,Tryz.ntmps35
 go_upto_region 4 with fail
 rw [a1.out]
 clear b0 a4 a1
 go_wp2_with fail
 go_loopw [15] (fun i wr=>∃ j:Nat,j<=ps.length/\i=.int .i64 j/\Below w.heap.size w wr/\w.heap.size<wr.heap.size/\Zc5 3 wr w.heap.size ps.length/\Zbk 3 w.heap.size (Zdf (w.heap.size+1)) wr.heap.size wr (ps.take j)) (fun i _=>ps.length - (intOf i).toNat)
 case atStart=>exact ⟨0,Nat.zero_le _,rfl,N,S,m,by rw [List.take_zero];exact Zfg⟩
 case round =>
  obtain ⟨j,hj,rfl,K,z,a3,R⟩:=hrel
  have p:=Zb K
  have M:=Zb a3
  have L:=Zb R
  clear K a3 R N S m
  by_cases hlt:j<ps.length
  ·obtain ⟨bl,off,ha,b6,hc⟩:=HP.out.resolve_left (by intro e;rw [e] at hlt;simp at hlt)
   obtain rfl:a=⟨bl,off,none⟩:=by simpa using ha
   obtain ⟨⟨xi,xl,G⟩,hx⟩:∃ q,ps[j]?=some q:=⟨_,List.getElem?_eq_getElem hlt⟩
   have HX:=Zb hx
   obtain ⟨la,lc,pv,⟨c0,c1,c2⟩,a0,b4,s⟩:=(hc j _ hx).below (p.out.mono hB) b6
   have l:=s
   obtain ⟨y,d,rfl,_,_,_⟩:=s
   simp only at c0 c1 c2 a0 b4 l
   have HV:Hid (Ja B wr (.agg #[.int .i64 xi,.slice la xl.length lc,.slice y G.length d]) ⟨xi,xl,G⟩):=⟨la,lc,y,d,rfl,a0,b4,l⟩
   clear a0 b4 l
   have u:=HT.out _ (List.mem_of_getElem? hx)
   clear hc hx ha
   go_upto_region 7 with fail
   generalize A:World.alloc _ _=W2
   have k:=Zl wr #[.int .i64 xi,.slice la xl.length lc,.slice y G.length d] 47
   rw [A] at k
   have E:Hid (Below wr.heap.size wr W2):=by rw [<- A];exact (Below.refl _ _).alloc (Nat.le_refl _) _
   have HC:=Zb (Zg9 _ _ B W2 (by have:=p.out.size;have:=E.out.size;omega) (HV.out.below (E.out.mono (by have:=p.out.size;omega))) u.1 u.2.1 u.2.2)
   have k0:=k.cell 0 rfl
   have k1:=k.cell 1 rfl
   have k2:=k.cell 2 rfl
   have c9:=k.lt
   clear A k c0 c1 c2 u
   go_wp2_with fail
   refine HC.out.mono ?_
   rintro e w3 ⟨c8,rfl,b5,D⟩
   obtain ⟨b3,b2,d0,rfl,c5,c7,V⟩:=b5
   have t:=V
   obtain ⟨I,O,rfl,_⟩:=V
   have b9:Hid (Zdf W2.heap.size w3.heap.size w3 [.int .i64 xi,.slice b3 xl.length b2,.slice I G.length O] ⟨xi,xl,G⟩):=⟨b3,b2,_,rfl,c5,c7,t⟩
   clear c5 c7 t
   have C:=Zb (Za E.out D)
   have c6:wr.heap.size<w3.heap.size:=by have:=D.size;omega
   have b:=M.out.below C.out z
   have Q:=Zb b
   obtain ⟨u0,y0⟩:=Option.isSome_iff_exists.1 (b (j*3) (by omega)).1
   have f0:=(b (j*3) (by omega)).2
   obtain ⟨u1,y1⟩:=Option.isSome_iff_exists.1 (b (j*3+1) (by omega)).1
   have f1:=(b (j*3+1) (by omega)).2
   obtain ⟨u2,y2⟩:=Option.isSome_iff_exists.1 (b (j*3+2) (by omega)).1
   have f2:=(b (j*3+2) (by omega)).2
   have HL:Hid (w.heap.size+1<=W2.heap.size):=by
    show _<=_
    omega
   clear D b k0 k1 k2 HC
   go_upto_region 8 with fail
   clear y0 f0 y1 f1 y2 f2
   generalize U:World.setCell _ _ _=W4
   have c:w3.setCells w.heap.size (j*3) [.int .i64 xi,.slice b3 xl.length b2,.slice I G.length O]=W4:=by rw [<- U];rfl
   have b8:Hid (Below w.heap.size w W4):=by
    rw [<- c]
    exact Zdz (Nat.le_refl _) _ _ _ (Za p.out C.out)
   have b1:Hid (Zc5 3 W4 w.heap.size ps.length):=by
    rw [<- c]
    exact Q.out.puts _ (by simp;omega)
   have a8:Hid (Zbk 3 w.heap.size (Zdf (w.heap.size+1)) W4.heap.size W4 (ps.take (j+1))):=by
    rw [<- c,Zcb]
    exact Zfh (n:=ps.length) (Zep _) HX.out z C.out L.out rfl (Zdf.lower HL.out b9.out) Q.out hlt
   have a7:w.heap.size<W4.heap.size:=by
    rw [<- c,Zcb];omega
   clear U c
   go_wp2_with fail
   go_roundw
   case rel=>exact ⟨j+1,by omega,by go_num,b8.out,a7,b1.out,a8.out⟩
   case measure=>simp [intOf];omega
  ·have b7:Hid (Zbk 3 w.heap.size (Zdf (w.heap.size+1)) wr.heap.size wr ps):=by
    have:=L.out
    rwa [List.take_of_length_le (by omega)] at this
   go_wp2_with fail
   go_ret
   exact ⟨_,rfl,⟨_,_,rfl,Nat.le_refl _,by omega,.inr ⟨w.heap.size,rfl,Nat.le_refl _,z,M.out,b7.out⟩⟩,p.out⟩
theorem Zpu (n lc:Nat) (f:Value) (w:World):Calls Tryz.prog 35 #[.slice none n lc,f] w fun e w'=>e=.returned (.slice none 0 0)/\w'=w:=by
 have a4:∀ W:World,(binOp .eql 22 (.slice none n lc) (.slice none 0 0)).run Tryz.prog W=.ok (.bool true) W:=fun W=>by
  have:=Lib.run_eql_slice_nil (P:=Tryz.prog) W 22 47 none n lc 0 0 Tryz.underlying22
  simpa using this
 go_enter Tryz.func35,Tryz.ntmps35
 go_wp2_with fail
 go_ret
 exact ⟨rfl,rfl⟩
theorem Zpv (v:Value) (ps:List Zo) (B:Nat) (w:World) (hB:B<=w.heap.size) (s:Jj B w v ps) (H:ps.length<=2000000) (ht:(∀ x ∈ ps,x.labels.length<=2000000/\x.props.length<=2000000/\∀ q ∈ x.props,q.2.total<=2000000)) :
  Calls Tryz.prog 35 #[v,.func (.func 36) #[] #[]] w fun e w'=>∃ v,e=.returned v/\Zcd w.heap.size w'.heap.size w' v ps/\Below w.heap.size w w':=by
 have l:=s
 obtain ⟨y,d,rfl,h1,h2,h3⟩:=s
 cases y with
 | none =>
  have h0:ps=[]:=h3.elim id fun ⟨bl,off,e,_⟩=>by cases e
  subst h0
  refine (Zpu _ d _ w).mono ?_
  rintro e w' ⟨rfl,rfl⟩
  exact ⟨_,rfl,⟨none,0,rfl,Nat.le_refl _,by omega,.inl rfl⟩,Below.refl _ _⟩
 | some a=>exact Zod ps a d B w hB l H ht
def Zdr (lo B:Nat) (w:World) (v:Value) (ps:List Jg):Prop :=
 ∃ y d,v=.slice y ps.length d/\ps.length<=d/\d<=9223372036854775807/\(ps=[]\/∃ g,y=some ⟨g,0,none⟩/\lo<=g/\g<B/\Zc5 5 w g ps.length/\Zbk 5 g (Zgn (g+1)) B w ps)
theorem Zoe (ps:List Jg) (a:Addr) (d B:Nat) (w:World) (hB:B<=w.heap.size) (s:Jt B w (.slice (some a) ps.length d) ps) (H:ps.length<=2000000) (ht:(∀ x ∈ ps,x.props.length<=2000000/\∀ q ∈ x.props,q.2.total<=2000000)) :
  Calls Tryz.prog 37 #[.slice (some a) ps.length d,.func (.func 38) #[] #[]] w fun e w'=>∃ v,e=.returned v/\Zdr w.heap.size w'.heap.size w' v ps/\Below w.heap.size w w':=by
 obtain ⟨a6,a9,e1,h1,h2,T⟩:=s
 obtain ⟨rfl,rfl⟩:some a=a6/\d=a9:=by injection e1 with e1 _ e2;exact ⟨e1,e2⟩
 obtain ⟨i0,hi,a2,F,X⟩:=info_parts Tryz.info49'
 have b0:∀ W:World,(Instr.makeSlice 23 (.int .i64 (ps.length:Int)) (.int .i64 (ps.length:Int))).run Tryz.prog W=.ok (.slice (some ⟨W.heap.size,0,none⟩) ps.length ps.length) (W.alloc (.cells (madeCells #[.int .i64 0,.int .i64 0,.int .i64 0,.string ⟨#[]⟩,.slice none 0 0] (ps.length*5)) 49)):=fun W=>by
  have:=run_makeSlice (P:=Tryz.prog) W 23 49 i0 _ Tryz.underlying23 hi a2 .i64 .i64 (ps.length:Int) (ps.length:Int) (by omega) (by omega) (by rw [F];omega) (by rw [X];omega) (by omega)
  simpa [F,Value.cells] using this
 have a4:∀ W:World,(binOp .eql 23 (.slice (some a) ps.length d) (.slice none 0 0)).run Tryz.prog W=.ok (.bool false) W:=fun W=>by
  have:=Lib.run_eql_slice_nil (P:=Tryz.prog) W 23 49 (some a) ps.length d 0 0 Tryz.underlying23
  simpa using this
 obtain ⟨Y,r⟩:∃ Y,w.alloc (.cells (madeCells #[.int .i64 0,.int .i64 0,.int .i64 0,.string ⟨#[]⟩,.slice none 0 0] (ps.length*5)) 49)=Y:=⟨_,rfl⟩
 have N:Below w.heap.size w Y:=r▸(Below.refl _ _).alloc (Nat.le_refl _) _
 have S:w.heap.size<Y.heap.size:=by rw [<- r];simp
 have m:Zc5 5 Y w.heap.size ps.length:=by
  intro o ho
  rw [<- r]
  have hs:(madeCells #[.int .i64 0,.int .i64 0,.int .i64 0,.string ⟨#[]⟩,.slice none 0 0] (ps.length*5)).size=ps.length*5:=size_madeCells _ _
  refine ⟨?_,?_⟩
  ·rw [Zaj _ _ _ o _ (Array.getElem?_eq_getElem (by rw [hs];exact ho))];rfl
  ·have H:=World.alloc_heap_new w (.cells (madeCells #[.int .i64 0,.int .i64 0,.int .i64 0,.string ⟨#[]⟩,.slice none 0 0] (ps.length*5)) 49)
   unfold World.frozen?
   simp only [H]
   simp
 have HP:=Zb T
 have HT:=Zb ht
 have a1:=Zb r
 clear T ht r hi a2 F X e1
 go_enter Tryz.func37,Tryz.ntmps37
 go_upto_region 4 with fail
 rw [a1.out]
 clear b0 a4 a1
 go_wp2_with fail
 go_loopw [15] (fun i wr=>∃ j:Nat,j<=ps.length/\i=.int .i64 j/\Below w.heap.size w wr/\w.heap.size<wr.heap.size/\Zc5 5 wr w.heap.size ps.length/\Zbk 5 w.heap.size (Zgn (w.heap.size+1)) wr.heap.size wr (ps.take j)) (fun i _=>ps.length - (intOf i).toNat)
 case atStart=>exact ⟨0,Nat.zero_le _,rfl,N,S,m,by rw [List.take_zero];exact Zfg⟩
 case round =>
  obtain ⟨j,hj,rfl,K,z,a3,R⟩:=hrel
  have p:=Zb K
  have M:=Zb a3
  have L:=Zb R
  clear K a3 R N S m
  by_cases hlt:j<ps.length
  ·obtain ⟨bl,off,ha,b6,hc⟩:=HP.out.resolve_left (by intro e;rw [e] at hlt;simp at hlt)
   obtain rfl:a=⟨bl,off,none⟩:=by simpa using ha
   obtain ⟨⟨xi,fr,tt,ty,G⟩,hx⟩:∃ q,ps[j]?=some q:=⟨_,List.getElem?_eq_getElem hlt⟩
   have HX:=Zb hx
   obtain ⟨pv,⟨c0,c1,c2,c3,c4⟩,_,s⟩:=(hc j _ hx).below (p.out.mono hB) b6
   have l:=s
   obtain ⟨y,d,rfl,_,_,_⟩:=s
   simp only at c0 c1 c2 c3 c4 l
   have HV:Hid (Ji B wr (.agg #[.int .i64 xi,.int .i64 fr,.int .i64 tt,.string ty,.slice y G.length d]) ⟨xi,fr,tt,ty,G⟩):=⟨y,d,rfl,l⟩
   clear l
   have u:=HT.out _ (List.mem_of_getElem? hx)
   clear hc hx ha
   go_upto_region 7 with fail
   generalize A:World.alloc _ _=W2
   have k:=Zl wr #[.int .i64 xi,.int .i64 fr,.int .i64 tt,.string ty,.slice y G.length d] 49
   rw [A] at k
   have E:Hid (Below wr.heap.size wr W2):=by rw [<- A];exact (Below.refl _ _).alloc (Nat.le_refl _) _
   have HC:=Zb (Zjo _ _ B W2 (by have:=p.out.size;have:=E.out.size;omega) (HV.out.below (E.out.mono (by have:=p.out.size;omega))) u.1 u.2)
   have k0:=k.cell 0 rfl
   have k1:=k.cell 1 rfl
   have k2:=k.cell 2 rfl
   have k3:=k.cell 3 rfl
   have k4:=k.cell 4 rfl
   have c9:=k.lt
   clear A k c0 c1 c2 c3 c4 u
   go_wp2_with fail
   refine HC.out.mono ?_
   rintro e w3 ⟨c8,rfl,b5,D⟩
   obtain ⟨d0,rfl,V⟩:=b5
   have t:=V
   obtain ⟨I,O,rfl,_⟩:=V
   have b9:Hid (Zgn W2.heap.size w3.heap.size w3 [.int .i64 xi,.int .i64 fr,.int .i64 tt,.string ty,.slice I G.length O] ⟨xi,fr,tt,ty,G⟩):=⟨_,rfl,t⟩
   clear t
   have C:=Zb (Za E.out D)
   have c6:wr.heap.size<w3.heap.size:=by have:=D.size;omega
   have b:=M.out.below C.out z
   have Q:=Zb b
   obtain ⟨u0,y0⟩:=Option.isSome_iff_exists.1 (b (j*5) (by omega)).1
   have f0:=(b (j*5) (by omega)).2
   obtain ⟨u1,y1⟩:=Option.isSome_iff_exists.1 (b (j*5+1) (by omega)).1
   have f1:=(b (j*5+1) (by omega)).2
   obtain ⟨u2,y2⟩:=Option.isSome_iff_exists.1 (b (j*5+2) (by omega)).1
   have f2:=(b (j*5+2) (by omega)).2
   obtain ⟨u3,y3⟩:=Option.isSome_iff_exists.1 (b (j*5+3) (by omega)).1
   have f3:=(b (j*5+3) (by omega)).2
   obtain ⟨u4,y4⟩:=Option.isSome_iff_exists.1 (b (j*5+4) (by omega)).1
   have f4:=(b (j*5+4) (by omega)).2
   have HL:Hid (w.heap.size+1<=W2.heap.size):=by
    show _<=_
    omega
   clear D b k0 k1 k2 k3 k4 HC
   go_upto_region 8 with fail
   clear y0 f0 y1 f1 y2 f2 y3 f3 y4 f4
   generalize U:World.setCell _ _ _=W4
   have c:w3.setCells w.heap.size (j*5) [.int .i64 xi,.int .i64 fr,.int .i64 tt,.string ty,.slice I G.length O]=W4:=by rw [<- U];rfl
   have b8:Hid (Below w.heap.size w W4):=by
    rw [<- c]
    exact Zdz (Nat.le_refl _) _ _ _ (Za p.out C.out)
   have b1:Hid (Zc5 5 W4 w.heap.size ps.length):=by
    rw [<- c]
    exact Q.out.puts _ (by simp;omega)
   have a8:Hid (Zbk 5 w.heap.size (Zgn (w.heap.size+1)) W4.heap.size W4 (ps.take (j+1))):=by
    rw [<- c,Zcb]
    exact Zfh (n:=ps.length) (Zgo _) HX.out z C.out L.out rfl (Zgn.lower HL.out b9.out) Q.out hlt
   have a7:w.heap.size<W4.heap.size:=by
    rw [<- c,Zcb];omega
   clear U c
   go_wp2_with fail
   go_roundw
   case rel=>exact ⟨j+1,by omega,by go_num,b8.out,a7,b1.out,a8.out⟩
   case measure=>simp [intOf];omega
  ·have b7:Hid (Zbk 5 w.heap.size (Zgn (w.heap.size+1)) wr.heap.size wr ps):=by
    have:=L.out
    rwa [List.take_of_length_le (by omega)] at this
   go_wp2_with fail
   go_ret
   exact ⟨_,rfl,⟨_,_,rfl,Nat.le_refl _,by omega,.inr ⟨w.heap.size,rfl,Nat.le_refl _,z,M.out,b7.out⟩⟩,p.out⟩
theorem Zpw (n lc:Nat) (f:Value) (w:World):Calls Tryz.prog 37 #[.slice none n lc,f] w fun e w'=>e=.returned (.slice none 0 0)/\w'=w:=by
 have a4:∀ W:World,(binOp .eql 23 (.slice none n lc) (.slice none 0 0)).run Tryz.prog W=.ok (.bool true) W:=fun W=>by
  have:=Lib.run_eql_slice_nil (P:=Tryz.prog) W 23 49 none n lc 0 0 Tryz.underlying23
  simpa using this
 go_enter Tryz.func37,Tryz.ntmps37
 go_wp2_with fail
 go_ret
 exact ⟨rfl,rfl⟩
theorem Zpx (v:Value) (ps:List Jg) (B:Nat) (w:World) (hB:B<=w.heap.size) (s:Jt B w v ps) (H:ps.length<=2000000) (ht:(∀ x ∈ ps,x.props.length<=2000000/\∀ q ∈ x.props,q.2.total<=2000000)) :
  Calls Tryz.prog 37 #[v,.func (.func 38) #[] #[]] w fun e w'=>∃ v,e=.returned v/\Zdr w.heap.size w'.heap.size w' v ps/\Below w.heap.size w w':=by
 have l:=s
 obtain ⟨y,d,rfl,h1,h2,h3⟩:=s
 cases y with
 | none =>
  have h0:ps=[]:=h3.elim id fun ⟨bl,off,e,_⟩=>by cases e
  subst h0
  refine (Zpw _ d _ w).mono ?_
  rintro e w' ⟨rfl,rfl⟩
  exact ⟨_,rfl,⟨none,0,rfl,Nat.le_refl _,by omega,.inl rfl⟩,Below.refl _ _⟩
 | some a=>exact Zoe ps a d B w hB l H ht
end
section
open Go.RowKit
variable {P:Program} {ops:Array Oper} {Q:Exit->Act->World->Prop}
def Zva (P:Program) (ops:Array Oper) (Q:Exit->Act->World->Prop) (F:Nat->Value->World->Prop) (Rel:World->World->Prop) (i:Nat) (a:Act) (w:World):Prop :=
 wpOp P ops Q i (fun U w'=>∃ v,U=a.put (Zv ops i) v/\F i v w'/\Rel w w') a w
theorem Zii {F:Nat->Value->World->Prop} {Rel:World->World->Prop} {i:Nat} {o:Oper} {a:Act} {w w':World} {v:Value} (Y:ops[i]?=some o) (hw:Region.wanted o (yielded ops a.tmps)=true)
  (R:(execOp a.eval o).run P w=.ok (.value v) w') (z:F i v w') (r:Rel w w'):Zva P ops Q F Rel i a w:=by
 unfold Zva wpOp
 simp only [Y,hw,if_true]
 refine .inl ?_
 unfold Oper.wp
 rw [R,Oper.upon_value]
 exact ⟨v,by simp [Zv,Y],z,r⟩
theorem Zij {A:Nat->List Nat} {F:Nat->Value->World->Prop} {Rel:World->World->Prop} {base:Act} {m:World} {id:Nat} (X:∀ w w':World,Below w.heap.size w w'->Rel w w') (a1:∀ a b c:World,Rel a b->Rel b c->Rel a c)
  (k:Nat) (T:k+1=ops.size) (b1:Zv ops k=none)
  (hm:P.follows .mixedOrders=true) (E:Zge ops base.tmps.size A=true) (a0:∀ i,i<k->∃ d,Zv ops i=some d) (a3:∀ i,i<k->i ∈ A k)
  (s:Nat) (M:∀ i v w w',F i v w->Rel m w->Below w.heap.size w w'->F i v w') (y:∀ i,i≠s->∀ v w w',F i v w->Rel m w->Rel w w'->F i v w')
  (a5:∀ i,i<k->i≠s->∀ a w,Zaf ops base a->Rel m w->(∀ j ∈ A i,F j (val ops a j) w)->Zbp P ops Q F i a w)
  (b2:s<k->∀ a w,Zaf ops base a->Below m.heap.size m w->(∀ j ∈ A s,F j (val ops a j) w)->Zva P ops Q F Rel s a w)
  (C:∀ a w,Zaf ops base a->Rel m w->(∀ i,i<k->F i (val ops a i) w)->wpOp P ops Q k (fun U w'=>(∃ v,U=a.put (Zv ops k) v)/\Q .normal a w') a w) :
  (Code.region id ops true).wp P Q base m:=by
 refine Zfr (A:=A) (G:=fun _ _=>True) (S:=fun l vs w=>(l k=false->Rel m w/\(l s=false->Below m.heap.size m w)/\∀ i,l i=true->i<ops.size->F i (vs i) w)/\(l k=true->∀ b,Zaf ops base b->(∀ i,i<ops.size->i≠k->val ops b i=vs i)->Q .normal b w)) hm E ⟨fun _=>⟨X _ _ (Below.refl _ _).drew,fun _=>(Below.refl _ _).drew,fun i h=>(by cases h)⟩,fun h=>(by cases h)⟩ ?_ ?_
 ·rintro i V l a w K x b3 hA ⟨a8,hK⟩
  have H:l k=false:=by
   cases h:l k with
   | false=>rfl
   | true =>
    by_cases e:i=k
    ·rw [e,h] at x;cases x
    ·have:=b3 k h i (a3 i (by omega));rw [x] at this;cases this
  obtain ⟨I,N,z⟩:=a8 H
  by_cases e:i=k
  ·subst e
   refine wpOp_mono ?_ (C a w K I fun j g=>z j (hA j (a3 j g)).1 (by omega))
   rintro U w' ⟨⟨v,rfl⟩,hq⟩
   refine ⟨v,rfl,trivial,fun h=>?_,fun _ b a7 W=>?_⟩
   ·rw [Zb4] at h;cases h
   ·have:b=a:=Zqb a7 K fun j g=>by
     by_cases ej:j=i
     ·subst ej;unfold val;rw [b1]
     ·rw [W j g ej,Zat _ _ ej]
    rw [this];exact hq
  ·have D:i<k:=by omega
   have t:∀ j ∈ A i,j<ops.size:=by
    have key:∀ n i,i<n->i<ops.size->∀ j ∈ A i,j<ops.size:=by
     intro n
     induction n with
     | zero=>intro i h;omega
     | succ n ih =>
      intro i h V j g
      obtain ⟨o,_,_,_,t,_,b0⟩:=Zd3 E i V
      obtain ⟨e,he,r,a6⟩:=b0 j g
      have h1:=t e he r
      rcases a6 with rfl | h2
      ·omega
      ·exact ih e.on (by omega) (by omega) j h2
    exact key (i+1) i (by omega) V
   obtain ⟨d,hd⟩:=a0 i D
   obtain ⟨o,Y,hs,a9,_,_,_⟩:=Zd3 E i V
   have a4:d<a.tmps.size:=by rw [K.2.1];exact a9 d (hs▸hd)
   by_cases eap:i=s
   ·subst eap
    refine wpOp_mono ?_ (b2 D a w K (N x) (fun j g=>z j (hA j g).1 (t j g)))
    rintro U w' ⟨v,rfl,L,r⟩
    have W:=Zma Y (hs▸hd:o.dst=some d) a4 v
    refine ⟨v,rfl,trivial,fun h=>⟨a1 _ _ _ I r,fun h2=>(by rw [Zb4] at h2;cases h2),fun j g O=>?_⟩,fun h=>?_⟩
    ·by_cases ej:j=i
     ·subst ej;rw [Zb4,W];exact L
     ·rw [Zat _ _ ej] at g |-
      exact y _ ej _ _ _ (z j g O) I r
    ·rw [Zat _ _ (Ne.symm e),H] at h;cases h
   ·refine wpOp_mono ?_ (a5 i D eap a w K I (fun j g=>z j (hA j g).1 (t j g)))
    rintro U w' ⟨v,rfl,L,r⟩
    have W:=Zma Y (hs▸hd:o.dst=some d) a4 v
    refine ⟨v,rfl,trivial,fun h=>⟨a1 _ _ _ I (X _ _ r),fun h2=>(by rw [Zat _ _ (Ne.symm eap)] at h2;exact (N h2).trans (r.mono (N h2).size)),fun j g O=>?_⟩,fun h=>?_⟩
    ·by_cases ej:j=i
     ·subst ej;rw [Zb4,W];exact L
     ·rw [Zat _ _ ej] at g |-
      exact M _ _ _ _ (z j g O) I r
    ·rw [Zat _ _ (Ne.symm e),H] at h;cases h
 ·rintro l a w K a2 ⟨z,hK⟩
  exact hK (a2 k (by omega)).1 a K fun _ _ _=>rfl
theorem Zdy {w w':World} {f:Option Nat} (h:Below w.heap.size w w'):w.grownBy w' f:=⟨h.os,h.tape,h.output,h.size,fun k T _=>h.block k T⟩
theorem Zik {a b c:World} {f:Option Nat} (h:a.grownBy b f) (h2:b.grownBy c f):a.grownBy c f :=
 ⟨h2.os.trans h.os,h2.tape.trans h.tape,h2.output.trans h.output,Nat.le_trans h.size h2.size,fun k T R=>(h2.block k (Nat.lt_of_lt_of_le T h.size) R).trans (h.block k T R)⟩
theorem Zqp {w w':World} {f:Option Nat} {B:Nat} (h:w.grownBy w' f) (R:∀ q,f=some q->B<=q) (I:B<=w.heap.size):Below B w w' :=
 ⟨h.os,h.tape,h.output,h.size,fun k T=>h.block k (by omega) fun e=>by have:=R k e.symm;omega⟩
def Zlm (f:Option Nat) (m:World) (pr:Value->World->Prop):Prop:=∀ v w w',pr v w->m.grownBy w f->w.grownBy w' f->pr v w'
theorem Zil (f:Option Nat) (m:World) (u:Value):Zlm f m (eqv u):=fun _ _ _ h _ _=>h
theorem Zeb {f:Option Nat} {m:World} {fs:List (Value->World->Prop)} {s:Nat} (h:∀ pr ∈ fs.set s (fun _ _=>True),Zlm f m pr) (i:Nat) (V:i≠s) (v:Value) (w w':World) (hf:Zg fs i v w) (h0:m.grownBy w f) (hg:w.grownBy w' f):Zg fs i v w':=by
 unfold Zg at *
 rw [List.getD_eq_getElem?_getD] at *
 cases g:fs[i]? with
 | none=>trivial
 | some p =>
  rw [g] at hf
  exact h p (List.mem_of_getElem? (i:=i) (by rw [List.getElem?_set_ne (Ne.symm V)];exact g)) v w w' hf h0 hg
end
section
open Go.RowKit Go.Shelf Go.WideShapes
noncomputable def Zj4  : Array Oper:=Zy Tryz.f52 5
def Jjt  : List Sig:=[⟨27,.fieldAddr 25 (.tmp 3) 0,0,none⟩,⟨28,.load 22 (.tmp 27),22,none⟩,⟨29,.move (.tmp 0),153,none⟩,⟨30,.nilCheck (.tmp 29),0,none⟩,⟨31,.fieldAddr 71 (.tmp 30) 0,0,none⟩,⟨32,.load 68 (.tmp 31),68,none⟩,⟨33,.move (.tmp 5),2,none⟩,⟨34,.lookup 68 (.tmp 32) (.tmp 33) false,47,none⟩,⟨35,.buildSlice 22 1 #[(0,.tmp 34)],22,none⟩,⟨36,.call { callee:=.builtin .append,args:=#[.tmp 28,.tmp 35],argTypes:=#[22,22] },22,none⟩,⟨37,.fieldAddr 25 (.tmp 3) 0,0,none⟩]
theorem Jho  : (Jh Zj4).take Jjt.length=Jjt.map some:=by kernel_rfl
def Zjp (i:Nat):List Nat:=nth [] [[],[0],[],[2],[3],[4],[],[5,6],[7],[1,8],[],[0,1,2,3,4,5,6,7,8,9,10]] i
def Zay (d:Option Nat) (x:World) (p:GP) (id:Int) (X z:Nat) (e:Value) (n:Nat) (xs:List Value) (k:Int) (la:Option Addr) (B lc:Nat) (o:Option Addr) (m l:Nat):List (Value->World->Prop) :=
 [eqv (.pointer (some ⟨X,0,none⟩)),eqv (e),eqv (.pointer (some ⟨p.g,0,none⟩)),eqv (.pointer (some ⟨p.g,0,none⟩)),eqv (.pointer (some ⟨p.g,0,none⟩)),eqv (.map (some p.n)),eqv (.int .i64 id),eqv (.agg #[.int .i64 k,.slice la B lc,.slice o m l]),fun v w=>∃ y,v=.slice (some ⟨y,0,none⟩) 1 1/\some y≠d/\Rec w y #[.int .i64 k,.slice la B lc,.slice o m l] 47,fun v w=>w.ownsRow z 47 3 v (n+1) (xs++[.int .i64 k,.slice la B lc,.slice o m l])/\∃ a c,v=.slice a (n+1) c,eqv (.pointer (some ⟨X,0,none⟩))]
structure Zg6 (d:Option Nat) (x:World) (p:GP) (id:Int) (X z:Nat) (e:Value) (n:Nat) (xs:List Value) (k:Int) (la:Option Addr) (B lc:Nat) (o:Option Addr) (m l:Nat) (c:Act):Prop where
 t0:c.eval (.tmp 0)=.pointer (some ⟨p.g,0,none⟩)
 t3:c.eval (.tmp 3)=.pointer (some ⟨X,0,none⟩)
 t5:c.eval (.tmp 5)=.int .i64 id
structure Ze1 (d:Option Nat) (x:World) (p:GP) (id:Int) (X z:Nat) (e:Value) (n:Nat) (xs:List Value) (k:Int) (la:Option Addr) (B lc:Nat) (o:Option Addr) (m l:Nat) (w:World):Prop where
 x0:w.cell? ⟨X,0,none⟩=some e
 sl:∃ a c,e=.slice a n c
 c0:w.cell? ⟨p.g,0,none⟩=some (.map (some p.n))
 lk:(Instr.lookup 68 (.map (some p.n)) (.int .i64 id) false).run Tryz.prog w=.ok (.agg #[.int .i64 k,.slice la B lc,.slice o m l]) w
 rb:∀ q,d=some q->q<w.heap.size
theorem Jhp (d:Option Nat) (x:World) (p:GP) (id:Int) (X z:Nat) (e:Value) (n:Nat) (xs:List Value) (k:Int) (la:Option Addr) (B lc:Nat) (o:Option Addr) (m l:Nat) (Q:Exit->Act->World->Prop) (c:Act) (w:World) (C:Zg6 d x p id X z e n xs k la B lc o m l c) (E:Ze1 d x p id X z e n xs k la B lc o m l w) (D:∀ q0 ∈ Zjp 1,Zg (Zay d x p id X z e n xs k la B lc o m l) q0 (val Zj4 c q0) w) :
  Zbp Tryz.prog Zj4 Q (Zg (Zay d x p id X z e n xs k la B lc o m l)) 1 c w:=by
 have K:Zj4[1]?=some (⟨some 28,.load 22 (.tmp 27),22, "graph.go:128",#[⟨0,.data⟩],none⟩:Oper):=by kernel_rfl
 have b2:c.eval (.tmp 27)=.pointer (some ⟨X,0,none⟩):=Zm (by kernel_rfl) rfl (D 0 (by decide))
 have L:Region.wanted (⟨some 28,.load 22 (.tmp 27),22, "graph.go:128",#[⟨0,.data⟩],none⟩:Oper) (yielded Zj4 c.tmps)=true:=Zz rfl
 have ec:=evc c
 have ef:=evf c
 have x0:=E.x0
 refine Ze K L (v:=e) ?_ rfl (Below.refl _ _)
 generalize c.eval=ρ at *
 obtain ⟨sa,sc,rfl⟩:=E.sl
 clear D C E L K
 go_simp
theorem Jhq (d:Option Nat) (x:World) (p:GP) (id:Int) (X z:Nat) (e:Value) (n:Nat) (xs:List Value) (k:Int) (la:Option Addr) (B lc:Nat) (o:Option Addr) (m l:Nat) (Q:Exit->Act->World->Prop) (c:Act) (w:World) (C:Zg6 d x p id X z e n xs k la B lc o m l c) (E:Ze1 d x p id X z e n xs k la B lc o m l w) (D:∀ q0 ∈ Zjp 8,Zg (Zay d x p id X z e n xs k la B lc o m l) q0 (val Zj4 c q0) w) :
  Zbp Tryz.prog Zj4 Q (Zg (Zay d x p id X z e n xs k la B lc o m l)) 8 c w:=by
 have K:Zj4[8]?=some (⟨some 35,.buildSlice 22 1 #[(0,.tmp 34)],22, "graph.go:128",#[⟨7,.data⟩],none⟩:Oper):=by kernel_rfl
 have b5:c.eval (.tmp 34)=.agg #[.int .i64 k,.slice la B lc,.slice o m l]:=Zm (by kernel_rfl) rfl (D 7 (by decide))
 have L:Region.wanted (⟨some 35,.buildSlice 22 1 #[(0,.tmp 34)],22, "graph.go:128",#[⟨7,.data⟩],none⟩:Oper) (yielded Zj4 c.tmps)=true:=Zz rfl
 have ec:=evc c
 have ef:=evf c
 refine Ze K L (v:=.slice (some ⟨w.heap.size,0,none⟩) 1 1) (w':=w.alloc (.cells #[.int .i64 k,.slice la B lc,.slice o m l] 47)) ?_ ⟨w.heap.size,rfl,fun h=>by have:=E.rb _ h.symm;omega,Zl _ _ _⟩ ((Below.refl _ _).alloc (Nat.le_refl _) _)
 generalize c.eval=ρ at *
 clear D C E L K
 go_simp
theorem Jhr (d:Option Nat) (x:World) (p:GP) (id:Int) (X z:Nat) (e:Value) (n:Nat) (xs:List Value) (k:Int) (la:Option Addr) (B lc:Nat) (o:Option Addr) (m l:Nat) (Q:Exit->Act->World->Prop) (c:Act) (w:World) (C:Zg6 d x p id X z e n xs k la B lc o m l c) (E:Ze1 d x p id X z e n xs k la B lc o m l w) (Y:w.ownsRow z 47 3 e n xs/\n<=4000000/\z<=w.heap.size/\e.ownBlock=d/\x.heap.size<=w.heap.size) (D:∀ q0 ∈ Zjp 9,Zg (Zay d x p id X z e n xs k la B lc o m l) q0 (val Zj4 c q0) w) :
  Zva Tryz.prog Zj4 Q (Zg (Zay d x p id X z e n xs k la B lc o m l)) (fun a b=>a.grownBy b d) 9 c w:=by
 have K:Zj4[9]?=some (⟨some 36,.call { callee:=.builtin .append,args:=#[.tmp 28,.tmp 35],argTypes:=#[22,22] },22, "graph.go:128",#[⟨1,.data⟩,⟨8,.data⟩],none⟩:Oper):=by kernel_rfl
 have b1:c.eval (.tmp 28)=e:=Zm (by kernel_rfl) rfl (D 1 (by decide))
 have a4:(fun v w=>∃ y,v=.slice (some ⟨y,0,none⟩) 1 1/\some y≠d/\Rec w y #[.int .i64 k,.slice la B lc,.slice o m l] 47) (c.eval (.tmp 35)) w:=Jw (by kernel_rfl) rfl (D 8 (by decide))
 have L:Region.wanted (⟨some 36,.call { callee:=.builtin .append,args:=#[.tmp 28,.tmp 35],argTypes:=#[22,22] },22, "graph.go:128",#[⟨1,.data⟩,⟨8,.data⟩],none⟩:Oper) (yielded Zj4 c.tmps)=true:=Zz rfl
 have ec:=evc c
 have ef:=evf c
 obtain ⟨i0,G,a2,a1,a0⟩:=info_parts Tryz.info47
 obtain ⟨y,a9,a8,M⟩:=a4
 obtain ⟨h1,h2,h3,h4,h5⟩:=Y
 obtain ⟨v',w',S,I,V,_,a7⟩:=run_append_own_at (P:=Tryz.prog) w z 22 22 47 i0 (.agg #[.int .i64 0,.slice none 0 0,.slice none 0 0]) 3 56 Tryz.underlying22 G a2 a1 a0 rfl (by decide) e n xs h1 ⟨y,0,none⟩ 1 1 [.int .i64 k,.slice la B lc,.slice o m l] rfl (fun j u hj=>by
  have R:(⟨y,0,none⟩:Addr).add j=⟨y,j,none⟩:=by unfold Addr.add;split<;>simp_all
  rw [R]
  exact M.cell j (by simpa using hj)) (by intro u hu;simp only [List.mem_cons,List.not_mem_nil,or_false] at hu;rcases hu with rfl | rfl | rfl<;>rfl) (by unfold maxLen;omega) (by omega) h3
 obtain ⟨ua,uc,rfl⟩:=Jn I
 refine Zii K L (v:=.slice ua (n+1) uc) (w':=w') ?_ ⟨I,ua,uc,rfl⟩ (h4▸V)
 exact Zd1 b1 a9 S
theorem Zyr (d:Option Nat) (x:World) (p:GP) (id:Int) (X z:Nat) (e:Value) (n:Nat) (xs:List Value) (k:Int) (la:Option Addr) (B lc:Nat) (o:Option Addr) (m l:Nat):∀ pr ∈ Zay d x p id X z e n xs k la B lc o m l,Zct pr:=by
 unfold Zay
 iterate 11 (first | refine List.forall_mem_cons.2 ⟨Zal _,?_⟩ | refine List.forall_mem_cons.2 ⟨fun v w w' ⟨y,h,M,O⟩ C=>⟨y,h,M,O.below C O.lt⟩,?_⟩ | refine List.forall_mem_cons.2 ⟨fun v w w' ⟨h,h2⟩ C=>⟨Jf h fun g _ W=>C.block g W,h2⟩,?_⟩)
 exact List.forall_mem_nil _
theorem Zt4 (d:Option Nat) (x:World) (p:GP) (id:Int) (X z:Nat) (e:Value) (n:Nat) (xs:List Value) (k:Int) (la:Option Addr) (B lc:Nat) (o:Option Addr) (m l:Nat):∀ pr ∈ (Zay d x p id X z e n xs k la B lc o m l).set 9 (fun _ _=>True),Zlm d x pr:=by
 unfold Zay
 simp only [List.set_cons_succ,List.set_cons_zero]
 iterate 11 (first | refine List.forall_mem_cons.2 ⟨Zil _ _ _,?_⟩ | refine List.forall_mem_cons.2 ⟨fun _ _ _ _ _ _=>trivial,?_⟩ | refine List.forall_mem_cons.2 ⟨fun v w w' ⟨y,h,M,O⟩ _ W=>⟨y,h,M,O.keep (W.block y O.lt M)⟩,?_⟩)
 exact List.forall_mem_nil _
theorem Jhs (d:Option Nat) (x:World) (p:GP) (id:Int) (X z:Nat) (e:Value) (n:Nat) (xs:List Value) (k:Int) (la:Option Addr) (B lc:Nat) (o:Option Addr) (m l:Nat) (Q:Exit->Act->World->Prop):∀ i,i<11->(fun i=>i ∉ ([1,8,9]:List Nat)->∀ c w,Zg6 d x p id X z e n xs k la B lc o m l c->Ze1 d x p id X z e n xs k la B lc o m l w->(∀ q0 ∈ Zjp i,Zg (Zay d x p id X z e n xs k la B lc o m l) q0 (val Zj4 c q0) w)->Zbp Tryz.prog Zj4 Q (Zg (Zay d x p id X z e n xs k la B lc o m l)) i c w) i:=by
 iterate 11 (refine Zd ?_ (by
  intro hn c w C E D
  first
  | exact absurd (by decide) hn
  | (have hEq:=Za5 Jho (by decide) D
     refine Zbb Jho (by decide) rfl (fun _=>rfl) ?_
     obtain ⟨t0,t3,t5⟩:=C
     obtain ⟨x0,sl,c0,lk,rb⟩:=E
     have ec:=evc c
     have ef:=evf c
     dsimp only [Zjp,Jjt,Zay,nth,Zdj,Za2,eqv] at hEq |-
     refine .inl fun pos af=>?_
     clear D hn
     dsimp only [Sig.oper]
     generalize c.eval=ρ at *
     go_simp
     done)))
 exact Zf
theorem Jht (d:Option Nat) (x:World) (p:GP) (id:Int) (X z:Nat) (e:Value) (n:Nat) (xs:List Value) (k:Int) (la:Option Addr) (B lc:Nat) (o:Option Addr) (m l:Nat) (Q:Exit->Act->World->Prop):∀ i,i<11->(fun i=>i≠9->∀ c w,Zg6 d x p id X z e n xs k la B lc o m l c->Ze1 d x p id X z e n xs k la B lc o m l w->(∀ q0 ∈ Zjp i,Zg (Zay d x p id X z e n xs k la B lc o m l) q0 (val Zj4 c q0) w)->Zbp Tryz.prog Zj4 Q (Zg (Zay d x p id X z e n xs k la B lc o m l)) i c w) i:=by
 intro i G U
 by_cases h1:i=1
 ·subst h1;exact fun c w=>Jhp d x p id X z e n xs k la B lc o m l Q c w
 by_cases h8:i=8
 ·subst h8;exact fun c w=>Jhq d x p id X z e n xs k la B lc o m l Q c w
 exact Jhs d x p id X z e n xs k la B lc o m l Q i G (by simp [*])
theorem Zys (d:Option Nat) (x:World) (p:GP) (id:Int) (X z:Nat) (e:Value) (n:Nat) (xs:List Value) (k:Int) (la:Option Addr) (B lc:Nat) (o:Option Addr) (m l:Nat) (Q:Exit->Act->World->Prop) (base:Act) (a3:base.tmps.size=62) (C:Zg6 d x p id X z e n xs k la B lc o m l base)
  (E:∀ w,x.grownBy w d->Ze1 d x p id X z e n xs k la B lc o m l w) (Y:∀ w,Below x.heap.size x w->w.ownsRow z 47 3 e n xs/\n<=4000000/\z<=w.heap.size/\e.ownBlock=d/\x.heap.size<=w.heap.size) (hL:∀ c w,Zaf Zj4 base c->x.grownBy w d->(fun v w=>w.ownsRow z 47 3 v (n+1) (xs++[.int .i64 k,.slice la B lc,.slice o m l])/\∃ a c,v=.slice a (n+1) c) (c.eval (.tmp 36)) w->c.eval (.tmp 37)=.pointer (some ⟨X,0,none⟩)->∃ w',(execOp c.eval (⟨none,.store 22 (.tmp 37) (.tmp 36),0, "graph.go:128",#[⟨10,.data⟩,⟨9,.data⟩,⟨9,.chain⟩,⟨0,.phase⟩,⟨1,.phase⟩,⟨2,.phase⟩,⟨3,.phase⟩,⟨4,.phase⟩,⟨5,.phase⟩,⟨6,.phase⟩,⟨7,.phase⟩,⟨8,.phase⟩,⟨9,.phase⟩],none⟩:Oper)).run Tryz.prog w=.ok .skip w'/\Q .normal c w'):(Code.region 5 Zj4 true).wp Tryz.prog Q base x:=by
 have T:(List.range 11).all (fun i=>(Zv Zj4 i).isSome)=true:=by kernel_rfl
 refine Zij (A:=Zjp) (F:=Zg (Zay d x p id X z e n xs k la B lc o m l)) (Rel:=fun a b=>a.grownBy b d) (fun _ _ h=>Zdy h) (fun _ _ _ h1 h2=>Zik h1 h2) 11 (by kernel_rfl) (by kernel_rfl) (by kernel_rfl) (by rw [a3];kernel_rfl) ?_ (by decide) 9 (fun i v w w' hf _ C=>Jk (Zyr d x p id X z e n xs k la B lc o m l) i v w w' hf C) (fun i G v w w'=>Zeb (Zt4 d x p id X z e n xs k la B lc o m l) i G v w w') ?_ ?_ ?_
 ·exact fun i G=>Option.isSome_iff_exists.1 (List.all_eq_true.1 T i (List.mem_range.2 G))
 ·intro i G U c w H N D
  exact Jht d x p id X z e n xs k la B lc o m l Q i G U c w ⟨(Zc H (by kernel_rfl)).trans C.t0,(Zc H (by kernel_rfl)).trans C.t3,(Zc H (by kernel_rfl)).trans C.t5⟩ (E w N) D
 ·intro G c w H N D
  exact Jhr d x p id X z e n xs k la B lc o m l Q c w ⟨(Zc H (by kernel_rfl)).trans C.t0,(Zc H (by kernel_rfl)).trans C.t3,(Zc H (by kernel_rfl)).trans C.t5⟩ (E w (Zdy N)) (Y w N) D
 ·intro c w H N D
  obtain ⟨w',h1,h2⟩:=hL c w H N (Jw (p:=fun v w=>w.ownsRow z 47 3 v (n+1) (xs++[.int .i64 k,.slice la B lc,.slice o m l])/\∃ a c,v=.slice a (n+1) c) (by kernel_rfl) rfl (D 9 (by omega))) (Jw (p:=eqv (.pointer (some ⟨X,0,none⟩))) (by kernel_rfl) rfl (D 10 (by omega)))
  exact Zb5 (by kernel_rfl) (Zz rfl) h1 h2
noncomputable def Zdi  : Array Oper:=Zy Tryz.f52 10
def Jds  : List Sig:=[⟨49,.fieldAddr 25 (.tmp 3) 1,0,none⟩,⟨50,.load 23 (.tmp 49),23,none⟩,⟨51,.move (.tmp 0),153,none⟩,⟨52,.nilCheck (.tmp 51),0,none⟩,⟨53,.fieldAddr 71 (.tmp 52) 1,0,none⟩,⟨54,.load 69 (.tmp 53),69,none⟩,⟨55,.move (.tmp 7),2,none⟩,⟨56,.lookup 69 (.tmp 54) (.tmp 55) false,49,none⟩,⟨57,.buildSlice 23 1 #[(0,.tmp 56)],23,none⟩,⟨58,.call { callee:=.builtin .append,args:=#[.tmp 50,.tmp 57],argTypes:=#[23,23] },23,none⟩,⟨59,.fieldAddr 25 (.tmp 3) 1,0,none⟩]
theorem Jb9  : (Jh Zdi).take Jds.length=Jds.map some:=by kernel_rfl
def Zfu (i:Nat):List Nat:=nth [] [[],[0],[],[2],[3],[4],[],[5,6],[7],[1,8],[],[0,1,2,3,4,5,6,7,8,9,10]] i
def Zai (d:Option Nat) (x:World) (p:GP) (id:Int) (X z:Nat) (e:Value) (n:Nat) (xs:List Value) (k f t:Int) (s:ByteArray) (o:Option Addr) (m l:Nat):List (Value->World->Prop) :=
 [eqv (.pointer (some ⟨X,1,none⟩)),eqv (e),eqv (.pointer (some ⟨p.g,0,none⟩)),eqv (.pointer (some ⟨p.g,0,none⟩)),eqv (.pointer (some ⟨p.g,1,none⟩)),eqv (.map (some p.r)),eqv (.int .i64 id),eqv (.agg #[.int .i64 k,.int .i64 f,.int .i64 t,.string s,.slice o m l]),fun v w=>∃ y,v=.slice (some ⟨y,0,none⟩) 1 1/\some y≠d/\Rec w y #[.int .i64 k,.int .i64 f,.int .i64 t,.string s,.slice o m l] 49,fun v w=>w.ownsRow z 49 5 v (n+1) (xs++[.int .i64 k,.int .i64 f,.int .i64 t,.string s,.slice o m l])/\∃ a c,v=.slice a (n+1) c,eqv (.pointer (some ⟨X,1,none⟩))]
structure Ze2 (d:Option Nat) (x:World) (p:GP) (id:Int) (X z:Nat) (e:Value) (n:Nat) (xs:List Value) (k f t:Int) (s:ByteArray) (o:Option Addr) (m l:Nat) (c:Act):Prop where
 t0:c.eval (.tmp 0)=.pointer (some ⟨p.g,0,none⟩)
 t3:c.eval (.tmp 3)=.pointer (some ⟨X,0,none⟩)
 t7:c.eval (.tmp 7)=.int .i64 id
structure Zdv (d:Option Nat) (x:World) (p:GP) (id:Int) (X z:Nat) (e:Value) (n:Nat) (xs:List Value) (k f t:Int) (s:ByteArray) (o:Option Addr) (m l:Nat) (w:World):Prop where
 x0:w.cell? ⟨X,1,none⟩=some e
 sl:∃ a c,e=.slice a n c
 c0:w.cell? ⟨p.g,1,none⟩=some (.map (some p.r))
 lk:(Instr.lookup 69 (.map (some p.r)) (.int .i64 id) false).run Tryz.prog w=.ok (.agg #[.int .i64 k,.int .i64 f,.int .i64 t,.string s,.slice o m l]) w
 rb:∀ q,d=some q->q<w.heap.size
theorem Jdt (d:Option Nat) (x:World) (p:GP) (id:Int) (X z:Nat) (e:Value) (n:Nat) (xs:List Value) (k f t:Int) (s:ByteArray) (o:Option Addr) (m l:Nat) (Q:Exit->Act->World->Prop) (c:Act) (w:World) (C:Ze2 d x p id X z e n xs k f t s o m l c) (E:Zdv d x p id X z e n xs k f t s o m l w) (D:∀ q0 ∈ Zfu 1,Zg (Zai d x p id X z e n xs k f t s o m l) q0 (val Zdi c q0) w) :
  Zbp Tryz.prog Zdi Q (Zg (Zai d x p id X z e n xs k f t s o m l)) 1 c w:=by
 have K:Zdi[1]?=some (⟨some 50,.load 23 (.tmp 49),23, "graph.go:131",#[⟨0,.data⟩],none⟩:Oper):=by kernel_rfl
 have b4:c.eval (.tmp 49)=.pointer (some ⟨X,1,none⟩):=Zm (by kernel_rfl) rfl (D 0 (by decide))
 have L:Region.wanted (⟨some 50,.load 23 (.tmp 49),23, "graph.go:131",#[⟨0,.data⟩],none⟩:Oper) (yielded Zdi c.tmps)=true:=Zz rfl
 have ec:=evc c
 have ef:=evf c
 have x0:=E.x0
 refine Ze K L (v:=e) ?_ rfl (Below.refl _ _)
 generalize c.eval=ρ at *
 obtain ⟨sa,sc,rfl⟩:=E.sl
 clear D C E L K
 go_simp
theorem Jdu (d:Option Nat) (x:World) (p:GP) (id:Int) (X z:Nat) (e:Value) (n:Nat) (xs:List Value) (k f t:Int) (s:ByteArray) (o:Option Addr) (m l:Nat) (Q:Exit->Act->World->Prop) (c:Act) (w:World) (C:Ze2 d x p id X z e n xs k f t s o m l c) (E:Zdv d x p id X z e n xs k f t s o m l w) (D:∀ q0 ∈ Zfu 8,Zg (Zai d x p id X z e n xs k f t s o m l) q0 (val Zdi c q0) w) :
  Zbp Tryz.prog Zdi Q (Zg (Zai d x p id X z e n xs k f t s o m l)) 8 c w:=by
 have K:Zdi[8]?=some (⟨some 57,.buildSlice 23 1 #[(0,.tmp 56)],23, "graph.go:131",#[⟨7,.data⟩],none⟩:Oper):=by kernel_rfl
 have b3:c.eval (.tmp 56)=.agg #[.int .i64 k,.int .i64 f,.int .i64 t,.string s,.slice o m l]:=Zm (by kernel_rfl) rfl (D 7 (by decide))
 have L:Region.wanted (⟨some 57,.buildSlice 23 1 #[(0,.tmp 56)],23, "graph.go:131",#[⟨7,.data⟩],none⟩:Oper) (yielded Zdi c.tmps)=true:=Zz rfl
 have ec:=evc c
 have ef:=evf c
 refine Ze K L (v:=.slice (some ⟨w.heap.size,0,none⟩) 1 1) (w':=w.alloc (.cells #[.int .i64 k,.int .i64 f,.int .i64 t,.string s,.slice o m l] 49)) ?_ ⟨w.heap.size,rfl,fun h=>by have:=E.rb _ h.symm;omega,Zl _ _ _⟩ ((Below.refl _ _).alloc (Nat.le_refl _) _)
 generalize c.eval=ρ at *
 clear D C E L K
 go_simp
theorem Jdv (d:Option Nat) (x:World) (p:GP) (id:Int) (X z:Nat) (e:Value) (n:Nat) (xs:List Value) (k f t:Int) (s:ByteArray) (o:Option Addr) (m l:Nat) (Q:Exit->Act->World->Prop) (c:Act) (w:World) (C:Ze2 d x p id X z e n xs k f t s o m l c) (E:Zdv d x p id X z e n xs k f t s o m l w) (Y:w.ownsRow z 49 5 e n xs/\n<=4000000/\z<=w.heap.size/\e.ownBlock=d/\x.heap.size<=w.heap.size) (D:∀ q0 ∈ Zfu 9,Zg (Zai d x p id X z e n xs k f t s o m l) q0 (val Zdi c q0) w) :
  Zva Tryz.prog Zdi Q (Zg (Zai d x p id X z e n xs k f t s o m l)) (fun a b=>a.grownBy b d) 9 c w:=by
 have K:Zdi[9]?=some (⟨some 58,.call { callee:=.builtin .append,args:=#[.tmp 50,.tmp 57],argTypes:=#[23,23] },23, "graph.go:131",#[⟨1,.data⟩,⟨8,.data⟩],none⟩:Oper):=by kernel_rfl
 have a6:c.eval (.tmp 50)=e:=Zm (by kernel_rfl) rfl (D 1 (by decide))
 have b0:(fun v w=>∃ y,v=.slice (some ⟨y,0,none⟩) 1 1/\some y≠d/\Rec w y #[.int .i64 k,.int .i64 f,.int .i64 t,.string s,.slice o m l] 49) (c.eval (.tmp 57)) w:=Jw (by kernel_rfl) rfl (D 8 (by decide))
 have L:Region.wanted (⟨some 58,.call { callee:=.builtin .append,args:=#[.tmp 50,.tmp 57],argTypes:=#[23,23] },23, "graph.go:131",#[⟨1,.data⟩,⟨8,.data⟩],none⟩:Oper) (yielded Zdi c.tmps)=true:=Zz rfl
 have ec:=evc c
 have ef:=evf c
 obtain ⟨i0,G,a2,a1,a0⟩:=info_parts Tryz.info49'
 obtain ⟨y,a5,a8,M⟩:=b0
 obtain ⟨h1,h2,h3,h4,h5⟩:=Y
 obtain ⟨v',w',S,I,V,_,a7⟩:=run_append_own_at (P:=Tryz.prog) w z 23 23 49 i0 (.agg #[.int .i64 0,.int .i64 0,.int .i64 0,.string ⟨#[]⟩,.slice none 0 0]) 5 64 Tryz.underlying23 G a2 a1 a0 rfl (by decide) e n xs h1 ⟨y,0,none⟩ 1 1 [.int .i64 k,.int .i64 f,.int .i64 t,.string s,.slice o m l] rfl (fun j u hj=>by
  have R:(⟨y,0,none⟩:Addr).add j=⟨y,j,none⟩:=by unfold Addr.add;split<;>simp_all
  rw [R]
  exact M.cell j (by simpa using hj)) (by intro u hu;simp only [List.mem_cons,List.not_mem_nil,or_false] at hu;rcases hu with rfl | rfl | rfl | rfl | rfl<;>rfl) (by unfold maxLen;omega) (by omega) h3
 obtain ⟨ua,uc,rfl⟩:=Jn I
 refine Zii K L (v:=.slice ua (n+1) uc) (w':=w') ?_ ⟨I,ua,uc,rfl⟩ (h4▸V)
 exact Zd1 a6 a5 S
theorem Zt5 (d:Option Nat) (x:World) (p:GP) (id:Int) (X z:Nat) (e:Value) (n:Nat) (xs:List Value) (k f t:Int) (s:ByteArray) (o:Option Addr) (m l:Nat):∀ pr ∈ Zai d x p id X z e n xs k f t s o m l,Zct pr:=by
 unfold Zai
 iterate 11 (first | refine List.forall_mem_cons.2 ⟨Zal _,?_⟩ | refine List.forall_mem_cons.2 ⟨fun v w w' ⟨y,h,M,O⟩ C=>⟨y,h,M,O.below C O.lt⟩,?_⟩ | refine List.forall_mem_cons.2 ⟨fun v w w' ⟨h,h2⟩ C=>⟨Jf h fun g _ W=>C.block g W,h2⟩,?_⟩)
 exact List.forall_mem_nil _
theorem Zqc (d:Option Nat) (x:World) (p:GP) (id:Int) (X z:Nat) (e:Value) (n:Nat) (xs:List Value) (k f t:Int) (s:ByteArray) (o:Option Addr) (m l:Nat):∀ pr ∈ (Zai d x p id X z e n xs k f t s o m l).set 9 (fun _ _=>True),Zlm d x pr:=by
 unfold Zai
 simp only [List.set_cons_succ,List.set_cons_zero]
 iterate 11 (first | refine List.forall_mem_cons.2 ⟨Zil _ _ _,?_⟩ | refine List.forall_mem_cons.2 ⟨fun _ _ _ _ _ _=>trivial,?_⟩ | refine List.forall_mem_cons.2 ⟨fun v w w' ⟨y,h,M,O⟩ _ W=>⟨y,h,M,O.keep (W.block y O.lt M)⟩,?_⟩)
 exact List.forall_mem_nil _
theorem Jdw (d:Option Nat) (x:World) (p:GP) (id:Int) (X z:Nat) (e:Value) (n:Nat) (xs:List Value) (k f t:Int) (s:ByteArray) (o:Option Addr) (m l:Nat) (Q:Exit->Act->World->Prop):∀ i,i<11->(fun i=>i ∉ ([1,8,9]:List Nat)->∀ c w,Ze2 d x p id X z e n xs k f t s o m l c->Zdv d x p id X z e n xs k f t s o m l w->(∀ q0 ∈ Zfu i,Zg (Zai d x p id X z e n xs k f t s o m l) q0 (val Zdi c q0) w)->Zbp Tryz.prog Zdi Q (Zg (Zai d x p id X z e n xs k f t s o m l)) i c w) i:=by
 iterate 11 (refine Zd ?_ (by
  intro hn c w C E D
  first
  | exact absurd (by decide) hn
  | (have hEq:=Za5 Jb9 (by decide) D
     refine Zbb Jb9 (by decide) rfl (fun _=>rfl) ?_
     obtain ⟨t0,t3,t7⟩:=C
     obtain ⟨x0,sl,c0,lk,rb⟩:=E
     have ec:=evc c
     have ef:=evf c
     dsimp only [Zfu,Jds,Zai,nth,Zdj,Za2,eqv] at hEq |-
     refine .inl fun pos af=>?_
     clear D hn
     dsimp only [Sig.oper]
     generalize c.eval=ρ at *
     go_simp
     done)))
 exact Zf
theorem Jdx (d:Option Nat) (x:World) (p:GP) (id:Int) (X z:Nat) (e:Value) (n:Nat) (xs:List Value) (k f t:Int) (s:ByteArray) (o:Option Addr) (m l:Nat) (Q:Exit->Act->World->Prop):∀ i,i<11->(fun i=>i≠9->∀ c w,Ze2 d x p id X z e n xs k f t s o m l c->Zdv d x p id X z e n xs k f t s o m l w->(∀ q0 ∈ Zfu i,Zg (Zai d x p id X z e n xs k f t s o m l) q0 (val Zdi c q0) w)->Zbp Tryz.prog Zdi Q (Zg (Zai d x p id X z e n xs k f t s o m l)) i c w) i:=by
 intro i G U
 by_cases h1:i=1
 ·subst h1;exact fun c w=>Jdt d x p id X z e n xs k f t s o m l Q c w
 by_cases h8:i=8
 ·subst h8;exact fun c w=>Jdu d x p id X z e n xs k f t s o m l Q c w
 exact Jdw d x p id X z e n xs k f t s o m l Q i G (by simp [*])
theorem Zt6 (d:Option Nat) (x:World) (p:GP) (id:Int) (X z:Nat) (e:Value) (n:Nat) (xs:List Value) (k f t:Int) (s:ByteArray) (o:Option Addr) (m l:Nat) (Q:Exit->Act->World->Prop) (base:Act) (a3:base.tmps.size=62) (C:Ze2 d x p id X z e n xs k f t s o m l base)
  (E:∀ w,x.grownBy w d->Zdv d x p id X z e n xs k f t s o m l w) (Y:∀ w,Below x.heap.size x w->w.ownsRow z 49 5 e n xs/\n<=4000000/\z<=w.heap.size/\e.ownBlock=d/\x.heap.size<=w.heap.size) (hL:∀ c w,Zaf Zdi base c->x.grownBy w d->(fun v w=>w.ownsRow z 49 5 v (n+1) (xs++[.int .i64 k,.int .i64 f,.int .i64 t,.string s,.slice o m l])/\∃ a c,v=.slice a (n+1) c) (c.eval (.tmp 58)) w->c.eval (.tmp 59)=.pointer (some ⟨X,1,none⟩)->∃ w',(execOp c.eval (⟨none,.store 23 (.tmp 59) (.tmp 58),0, "graph.go:131",#[⟨10,.data⟩,⟨9,.data⟩,⟨9,.chain⟩,⟨0,.phase⟩,⟨1,.phase⟩,⟨2,.phase⟩,⟨3,.phase⟩,⟨4,.phase⟩,⟨5,.phase⟩,⟨6,.phase⟩,⟨7,.phase⟩,⟨8,.phase⟩,⟨9,.phase⟩],none⟩:Oper)).run Tryz.prog w=.ok .skip w'/\Q .normal c w'):(Code.region 10 Zdi true).wp Tryz.prog Q base x:=by
 have T:(List.range 11).all (fun i=>(Zv Zdi i).isSome)=true:=by kernel_rfl
 refine Zij (A:=Zfu) (F:=Zg (Zai d x p id X z e n xs k f t s o m l)) (Rel:=fun a b=>a.grownBy b d) (fun _ _ h=>Zdy h) (fun _ _ _ h1 h2=>Zik h1 h2) 11 (by kernel_rfl) (by kernel_rfl) (by kernel_rfl) (by rw [a3];kernel_rfl) ?_ (by decide) 9 (fun i v w w' hf _ C=>Jk (Zt5 d x p id X z e n xs k f t s o m l) i v w w' hf C) (fun i G v w w'=>Zeb (Zqc d x p id X z e n xs k f t s o m l) i G v w w') ?_ ?_ ?_
 ·exact fun i G=>Option.isSome_iff_exists.1 (List.all_eq_true.1 T i (List.mem_range.2 G))
 ·intro i G U c w H N D
  exact Jdx d x p id X z e n xs k f t s o m l Q i G U c w ⟨(Zc H (by kernel_rfl)).trans C.t0,(Zc H (by kernel_rfl)).trans C.t3,(Zc H (by kernel_rfl)).trans C.t7⟩ (E w N) D
 ·intro G c w H N D
  exact Jdv d x p id X z e n xs k f t s o m l Q c w ⟨(Zc H (by kernel_rfl)).trans C.t0,(Zc H (by kernel_rfl)).trans C.t3,(Zc H (by kernel_rfl)).trans C.t7⟩ (E w (Zdy N)) (Y w N) D
 ·intro c w H N D
  obtain ⟨w',h1,h2⟩:=hL c w H N (Jw (p:=fun v w=>w.ownsRow z 49 5 v (n+1) (xs++[.int .i64 k,.int .i64 f,.int .i64 t,.string s,.slice o m l])/\∃ a c,v=.slice a (n+1) c) (by kernel_rfl) rfl (D 9 (by omega))) (Jw (p:=eqv (.pointer (some ⟨X,1,none⟩))) (by kernel_rfl) rfl (D 10 (by omega)))
  exact Zb5 (by kernel_rfl) (Zz rfl) h1 h2
end
