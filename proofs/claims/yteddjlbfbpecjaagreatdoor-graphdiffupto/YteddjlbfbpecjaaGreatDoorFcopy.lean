import Derived.Test.YteddjlbfbpecjaaGreatDoorJoin15
import Derived.Laws.OwnMore
namespace Go.Proofs.YteddjlbfbpecjaaGreatDoor
open Go.RowKit Go.Shelf Go.WideShapes
set_option maxHeartbeats 2000000
set_option maxRecDepth 100000
set_option linter.all false
def Zfs (d B:Nat) (w:World) (ad:Option Addr) (ks:List ByteArray):Prop :=
 ks=[]\/∃ b off,ad=some ⟨b,off,none⟩/\d<=b/\b<B/\∀ i,i<ks.length->w.cell? ⟨b,off+i,none⟩=some (.string (ks.getD i ⟨#[]⟩))/\(ks.getD i ⟨#[]⟩).size<=maxLen/\w.frozen? ⟨b,off+i,none⟩=false
mutual
def Za4 (d B:Nat) (w:World):Value->Zi->Prop
 | v,.mk k b n s ks ts=>∃ ka kc la lc,v=.agg #[.int .i64 k,.bool b,.int .i64 n,.string s,.slice ka ks.length kc,.slice la ts.length lc] /\
   (s.size<=maxLen/\ks.length<=kc/\kc<=maxLen/\ts.length<=lc/\lc<=maxLen)/\Zfs d B w ka ks/\(ts=[]\/∃ c off,la=some ⟨c,off,none⟩/\d<=c/\c<B/\KidsF d B w c off ts)
def KidsF (d B:Nat) (w:World) (c:Nat):Nat->List Zi->Prop
 | _,[]=>True
 | off,t::ts=>(∃ v0 v1 v2 v3 v4 v5,(w.cell? ⟨c,off,none⟩=some v0/\w.cell? ⟨c,off+1,none⟩=some v1/\w.cell? ⟨c,off+2,none⟩=some v2/\w.cell? ⟨c,off+3,none⟩=some v3 /\
   w.cell? ⟨c,off+4,none⟩=some v4/\w.cell? ⟨c,off+5,none⟩=some v5)/\w.frozen? ⟨c,off,none⟩=false/\Za4 d B w (.agg #[v0,v1,v2,v3,v4,v5]) t)/\KidsF d B w c (off+6) ts
end
def Zml (d B:Nat) (w:World) (la:Option Addr) (ts:List Zi):Prop:=ts=[]\/∃ c off,la=some ⟨c,off,none⟩/\d<=c/\c<B/\KidsF d B w c off ts
theorem Zfs.lie {d B:Nat} {w:World} {ad:Option Addr} {ks:List ByteArray} (h:Zfs d B w ad ks):Zab B w ad ks :=
 h.imp id fun ⟨b,off,h1,_,h2,h3⟩=>⟨b,off,h1,h2,fun i hi=>⟨(h3 i hi).1,(h3 i hi).2.1⟩⟩
mutual
theorem Za4.lie {d B:Nat} {w:World}:∀ {v:Value} {T:Zi},Za4 d B w v T->Zaw B w v T
 | v,.mk k b n s ks ts,h=>by
  simp only [Za4] at h
  obtain ⟨ka,kc,la,lc,M,hs,G,ht⟩:=h
  simp only [Zaw]
  exact ⟨ka,kc,la,lc,M,hs,G.lie,ht.imp id fun ⟨c,off,h1,_,h2,h3⟩=>⟨c,off,h1,h2,KidsF.lie h3⟩⟩
theorem KidsF.lie {d B:Nat} {w:World} {c:Nat}:∀ {off:Nat} {ts:List Zi},KidsF d B w c off ts->KidsLie B w c off ts
 | off,[],_=>by simp only [KidsLie]
 | off,t::ts,h=>by
  simp only [KidsF] at h
  obtain ⟨⟨v0,v1,v2,v3,v4,v5,S,_,M⟩,hr⟩:=h
  simp only [KidsLie]
  exact ⟨⟨v0,v1,v2,v3,v4,v5,S,Za4.lie M⟩,KidsF.lie hr⟩
end
def Zb9 (d B:Nat) (w w':World):Prop:=∀ b o,d<=b->b<B->w'.cell? ⟨b,o,none⟩=w.cell? ⟨b,o,none⟩/\w'.frozen? ⟨b,o,none⟩=w.frozen? ⟨b,o,none⟩
theorem Zfs.keep {d B:Nat} {w w':World} (G:Zb9 d B w w') {ad:Option Addr} {ks:List ByteArray} (h:Zfs d B w ad ks):Zfs d B w' ad ks :=
 h.imp id fun ⟨b,off,h1,h2,h3,h4⟩=>⟨b,off,h1,h2,h3,fun i hi=>⟨(G b _ h2 h3).1.trans (h4 i hi).1,(h4 i hi).2.1,(G b _ h2 h3).2.trans (h4 i hi).2.2⟩⟩
mutual
theorem Za4.keep {d B:Nat} {w w':World} (G:Zb9 d B w w'):∀ {v:Value} {T:Zi},Za4 d B w v T->Za4 d B w' v T
 | v,.mk k b n s ks ts,h=>by
  simp only [Za4] at h |-
  obtain ⟨ka,kc,la,lc,M,hs,a8,ht⟩:=h
  exact ⟨ka,kc,la,lc,M,hs,a8.keep G,ht.imp id fun ⟨c,off,h1,h2,h3,h4⟩=>⟨c,off,h1,h2,h3,KidsF.keep G h2 h3 h4⟩⟩
theorem KidsF.keep {d B:Nat} {w w':World} (G:Zb9 d B w w') {c:Nat} (h1:d<=c) (h2:c<B):∀ {off:Nat} {ts:List Zi},KidsF d B w c off ts->KidsF d B w' c off ts
 | off,[],_=>by simp only [KidsF]
 | off,t::ts,h=>by
  simp only [KidsF] at h |-
  obtain ⟨⟨v0,v1,v2,v3,v4,v5,⟨c0,c1,c2,c3,c4,c5⟩,hf,M⟩,hr⟩:=h
  exact ⟨⟨v0,v1,v2,v3,v4,v5,⟨(G c _ h1 h2).1.trans c0,(G c _ h1 h2).1.trans c1,(G c _ h1 h2).1.trans c2,(G c _ h1 h2).1.trans c3,(G c _ h1 h2).1.trans c4,(G c _ h1 h2).1.trans c5⟩,(G c _ h1 h2).2.trans hf,Za4.keep G M⟩,KidsF.keep G h1 h2 hr⟩
end
theorem Zfs.mono {d C B O:Nat} {w:World} (h1:C<=d) (h2:B<=O) {ad:Option Addr} {ks:List ByteArray} (h:Zfs d B w ad ks):Zfs C O w ad ks :=
 h.imp id fun ⟨b,off,g1,g2,g3,g4⟩=>⟨b,off,g1,Nat.le_trans h1 g2,Nat.lt_of_lt_of_le g3 h2,g4⟩
mutual
theorem Za4.mono {d C B O:Nat} {w:World} (h1:C<=d) (h2:B<=O):∀ {v:Value} {T:Zi},Za4 d B w v T->Za4 C O w v T
 | v,.mk k b n s ks ts,h=>by
  simp only [Za4] at h |-
  obtain ⟨ka,kc,la,lc,M,hs,a8,ht⟩:=h
  exact ⟨ka,kc,la,lc,M,hs,a8.mono h1 h2,ht.imp id fun ⟨c,off,g1,g2,g3,g4⟩=>⟨c,off,g1,Nat.le_trans h1 g2,Nat.lt_of_lt_of_le g3 h2,KidsF.mono h1 h2 g4⟩⟩
theorem KidsF.mono {d C B O:Nat} {w:World} (h1:C<=d) (h2:B<=O) {c:Nat}:∀ {off:Nat} {ts:List Zi},KidsF d B w c off ts->KidsF C O w c off ts
 | off,[],_=>by simp only [KidsF]
 | off,t::ts,h=>by
  simp only [KidsF] at h |-
  obtain ⟨⟨v0,v1,v2,v3,v4,v5,S,hf,M⟩,hr⟩:=h
  exact ⟨⟨v0,v1,v2,v3,v4,v5,S,hf,Za4.mono h1 h2 M⟩,KidsF.mono h1 h2 hr⟩
end
theorem Zml.mono {d C B O:Nat} {w:World} (h1:C<=d) (h2:B<=O) {la:Option Addr} {ts:List Zi} (h:Zml d B w la ts):Zml C O w la ts :=
 h.imp id fun ⟨c,off,g1,g2,g3,g4⟩=>⟨c,off,g1,Nat.le_trans h1 g2,Nat.lt_of_lt_of_le g3 h2,g4.mono h1 h2⟩
theorem Zml.keep {d B:Nat} {w w':World} (G:Zb9 d B w w') {la:Option Addr} {ts:List Zi} (h:Zml d B w la ts):Zml d B w' la ts :=
 h.imp id fun ⟨c,off,h1,h2,h3,h4⟩=>⟨c,off,h1,h2,h3,h4.keep G h2 h3⟩
theorem Zde {d B:Nat} {w w':World} (H:Below w.heap.size w w') (h:B<=w.heap.size):Zb9 d B w w':=fun b o _ h2=>⟨H.cell (p:=⟨b,o,none⟩) (Nat.lt_of_lt_of_le h2 h),H.frozen (p:=⟨b,o,none⟩) (Nat.lt_of_lt_of_le h2 h)⟩
theorem Zsf {d B c:Nat} {w:World}:∀ (l:List Zi) (off:Nat),(∀ (i:Nat) (t:Zi),l[i]?=some t->∃ v0 v1 v2 v3 v4 v5,(w.cell? ⟨c,off+i*6,none⟩=some v0/\w.cell? ⟨c,off+i*6+1,none⟩=some v1/\w.cell? ⟨c,off+i*6+2,none⟩=some v2/\w.cell? ⟨c,off+i*6+3,none⟩=some v3 /\
   w.cell? ⟨c,off+i*6+4,none⟩=some v4/\w.cell? ⟨c,off+i*6+5,none⟩=some v5)/\w.frozen? ⟨c,off+i*6,none⟩=false/\Za4 d B w (.agg #[v0,v1,v2,v3,v4,v5]) t)->KidsF d B w c off l
 | [],off,h=>by simp only [KidsF]
 | t::l,off,h=>by
  rw [KidsF]
  refine ⟨?_,Zsf l (off+6) fun i u U=>?_⟩
  ·have:=h 0 t rfl
   simpa using this
  ·have:=h (i+1) u (by simpa using U)
   have e:off+(i+1)*6=off+6+i*6:=by omega
   rwa [e] at this
theorem KidsF.at {d B:Nat} {w:World} {c:Nat}:∀ {ts:List Zi} {off:Nat},KidsF d B w c off ts->∀ {i:Nat} {t:Zi},ts[i]?=some t ->
  ∃ v0 v1 v2 v3 v4 v5,(w.cell? ⟨c,off+i*6,none⟩=some v0/\w.cell? ⟨c,off+i*6+1,none⟩=some v1/\w.cell? ⟨c,off+i*6+2,none⟩=some v2/\w.cell? ⟨c,off+i*6+3,none⟩=some v3 /\
   w.cell? ⟨c,off+i*6+4,none⟩=some v4/\w.cell? ⟨c,off+i*6+5,none⟩=some v5)/\w.frozen? ⟨c,off+i*6,none⟩=false/\Za4 d B w (.agg #[v0,v1,v2,v3,v4,v5]) t
 | t::ts,off,h,0,u,U=>by
  simp only [KidsF] at h
  simp only [List.getElem?_cons_zero,Option.some.injEq] at U
  subst U
  simpa using h.1
 | t::ts,off,h,i+1,u,U=>by
  simp only [KidsF] at h
  have:=KidsF.at h.2 (i:=i) (by simpa using U)
  have e:off+(i+1)*6=off+6+i*6:=by omega
  rwa [e]
def Zp4 (T:Zi):Prop:=∀ (B:Nat) (v:Value) (w:World),B<=w.heap.size->Zaw B w v T->T.total<=2000000 ->
 Calls Tryz.prog 147 #[v] w fun e w'=>∃ v',e=.returned v'/\Za4 w.heap.size w'.heap.size w' v' T/\Below w.heap.size w w'
theorem Ztz {ts:List Zi} {t:Zi} {g j d:Nat} {wr E:World} (hx:ts[j]?=some t) (hg:g<wr.heap.size) (H:Below wr.heap.size wr E) (G:KidsF (g+1) wr.heap.size wr g 0 (ts.take j)) {v0 v1 v2 v3 v4 v5:Value}
  (e6:g+1<=d) (M:Za4 d E.heap.size E (.agg #[v0,v1,v2,v3,v4,v5]) t) (hr:∀ q,q<6->(E.cell? ⟨g,j*6+q,none⟩).isSome=true) (i5:E.frozen? ⟨g,j*6,none⟩=false) :
  KidsF (g+1) (six E g (j*6) v0 v1 v2 v3 v4 v5).heap.size (six E g (j*6) v0 v1 v2 v3 v4 v5) g 0 (ts.take (j+1)):=by
 have j7:j<ts.length:=(List.getElem?_eq_some_iff.1 hx).1
 have a2:∀ (C:Nat),g+1<=C->∀ B,Zb9 C B E (six E g (j*6) v0 v1 v2 v3 v4 v5):=fun C h B b o h1 _=>⟨Zlq (fun e=>by omega),Zdn _⟩
 refine Zsf _ 0 fun i u U=>?_
 simp only [Nat.zero_add]
 rw [Zlr]
 by_cases hij:i=j
 ·subst hij
  have:u=t:=by
   rw [Zit hx,List.getElem?_append_right (by simp;omega)] at U
   simp [show min i ts.length=i by omega] at U
   exact U.symm
  subst this
  obtain ⟨c0,c1,c2,c3,c4,c5⟩:=Jbw (w:=E) (b:=g) (o:=i*6) (v0:=v0) (v1:=v1) (v2:=v2) (v3:=v3) (v4:=v4) (v5:=v5) hr
  exact ⟨v0,v1,v2,v3,v4,v5,⟨c0,c1,c2,c3,c4,c5⟩,by rw [Zdn];exact i5,(M.keep (a2 d e6 _)).mono e6 (Nat.le_refl _)⟩
 ·have j8:i<j:=by
   have h:=(List.getElem?_eq_some_iff.1 U).1
   simp at h;omega
  have i2:(ts.take j)[i]?=some u:=by
   rw [Zit hx,List.getElem?_append_left (by simp;omega)] at U
   exact U
  obtain ⟨x0,x1,x2,x3,x4,x5,⟨c0,c1,c2,c3,c4,c5⟩,hf,hl⟩:=G.at i2
  simp only [Nat.zero_add] at c0 c1 c2 c3 c4 c5 hf
  have S:∀ o v,o<i*6+6->wr.cell? ⟨g,o,none⟩=some v->(six E g (j*6) v0 v1 v2 v3 v4 v5).cell? ⟨g,o,none⟩=some v:=fun o v ho h=>by
   rw [Zlq (fun _=>.inl (by omega)),H.cell (p:=⟨g,o,none⟩) hg];exact h
  exact ⟨x0,x1,x2,x3,x4,x5,⟨S _ _ (by omega) c0,S _ _ (by omega) c1,S _ _ (by omega) c2,S _ _ (by omega) c3,S _ _ (by omega) c4,S _ _ (by omega) c5⟩,(by rw [Zdn,H.frozen (p:=⟨g,i*6,none⟩) hg];exact hf),
   ((hl.keep (Zde H (Nat.le_refl _))).mono (Nat.le_refl _) H.size).keep (a2 _ (Nat.le_refl _) _)⟩
theorem Zov (ts:List Zi) (ih:∀ t ∈ ts,Zp4 t) (B:Nat) (a:Addr) (lc:Nat) (w:World) (hB:B<=w.heap.size) (hl:Zbi B w (some a) ts) (h1:ts.length<=lc) (h2:lc<=maxLen) (I:Zi.totalL ts<=2000000) :
  Calls Tryz.prog 183 #[.slice (some a) ts.length lc] w fun e w'=>∃ f,e=.returned (.slice f ts.length ts.length)/\Zml w.heap.size w'.heap.size w' f ts/\Below w.heap.size w w':=by
 unfold maxLen at h2
 obtain ⟨i0,hi,j1,e1,g0⟩:=info_parts Tryz.info60
 have j6:=totalL_len ts
 have i8:∀ W:World,(Instr.makeSlice 58 (.int .i64 (ts.length:Int)) (.int .i64 (ts.length:Int))).run Tryz.prog W=.ok (.slice (some ⟨W.heap.size,0,none⟩) ts.length ts.length) (W.alloc (.cells (madeCells #[.int .i64 0,.bool false,.int .i64 0,.string ⟨#[]⟩,.slice none 0 0,.slice none 0 0] (ts.length*6)) 60)):=fun W=>by
  have:=run_makeSlice (P:=Tryz.prog) W 58 60 i0 _ Tryz.underlying58 hi j1 .i64 .i64 (ts.length:Int) (ts.length:Int) (by omega) (by omega) (by rw [e1];omega) (by rw [g0];omega) (by omega)
  simpa [e1,Value.cells] using this
 have j3:∀ W:World,(binOp .eql 58 (.slice (some a) ts.length lc) (.slice none 0 0)).run Tryz.prog W=.ok (.bool false) W:=fun W=>by
  have:=Lib.run_eql_slice_nil (P:=Tryz.prog) W 58 60 (some a) ts.length lc 0 0 Tryz.underlying58
  simpa using this
 obtain ⟨W1,a1⟩:∃ W1,w.alloc (.cells (madeCells #[.int .i64 0,.bool false,.int .i64 0,.string ⟨#[]⟩,.slice none 0 0,.slice none 0 0] (ts.length*6)) 60)=W1:=⟨_,rfl⟩
 have i7:Below w.heap.size w W1:=a1▸(Below.refl _ _).alloc (Nat.le_refl _) _
 have f7:w.heap.size<W1.heap.size:=by rw [<- a1];simp
 have b7:Jbx W1 w.heap.size ts.length:=by
  intro o ho
  rw [<- a1]
  have hs:(madeCells #[.int .i64 0,.bool false,.int .i64 0,.string ⟨#[]⟩,.slice none 0 0,.slice none 0 0] (ts.length*6)).size=ts.length*6:=size_madeCells _ _
  refine ⟨?_,?_⟩
  ·rw [Zaj _ _ _ o _ (Array.getElem?_eq_getElem (by rw [hs];exact ho))];rfl
  ·have hn:=World.alloc_heap_new w (.cells (madeCells #[.int .i64 0,.bool false,.int .i64 0,.string ⟨#[]⟩,.slice none 0 0,.slice none 0 0] (ts.length*6)) 60)
   unfold World.frozen?
   simp only [hn]
   simp
 have b4:=Zb hl
 have a9:=Zb ih
 have e3:=Zb a1
 have c7:=Zb I
 clear hl ih a1 I
 go_enter Tryz.func183,Tryz.ntmps183
 go_wp2_with fail
 rw [e3.out]
 clear i8 j3 e3
 go_loopw [13] (fun i wr=>∃ j:Nat,j<=ts.length/\i=.int .i64 j/\Below w.heap.size w wr/\w.heap.size<wr.heap.size/\Jbx wr w.heap.size ts.length/\KidsF (w.heap.size+1) wr.heap.size wr w.heap.size 0 (ts.take j)) (fun i _=>ts.length - (intOf i).toNat)
 case atStart=>exact ⟨0,Nat.zero_le _,rfl,i7,f7,b7,by simp only [List.take_zero,KidsF]⟩
 case round =>
  obtain ⟨j,hj,rfl,d6,b1,e4,a3⟩:=hrel
  have X:=Zb d6
  have i6:=Zb e4
  have d7:=Zb a3
  clear d6 e4 a3
  by_cases b2:j<ts.length
  ·obtain ⟨c,off,ha,k5,e0⟩:=(b4.out.below (X.out.mono hB)).resolve_left (by intro e;subst e;simp at b2)
   obtain rfl:a=⟨c,off,none⟩:=by simpa using ha
   obtain ⟨⟨p0,p1,p2,p3,p4,p5⟩,hx⟩:∃ t,ts[j]?=some t:=⟨_,List.getElem?_eq_getElem b2⟩
   obtain ⟨ja,jc,jl,jd,⟨c0,c1,c2,c3,c4,c5⟩,e7⟩:=e0.cells hx
   have HX:=Zb hx
   have hm:=Zgw (List.mem_of_getElem? hx)
   have HC:=Zb (a9.out _ (List.mem_of_getElem? hx) B _ (wr.alloc (.cells #[.int .i64 p0,.bool p1,.int .i64 p2,.string p3,.slice ja p4.length jc,.slice jl p5.length jd] 60)) (by have:=X.out.size;simp;omega)
    (e7.below (((Below.refl _ wr).alloc (Nat.le_refl _) _).mono (Nat.le_trans hB X.out.size))) (by have:=c7.out;omega))
   clear e0 e7 hx hm
   go_wp2_with fail
   refine HC.out.mono ?_
   rintro e E ⟨v2,rfl,b5,N⟩
   have b8:=Zb (Zfe N)
   have j5:wr.heap.size<E.heap.size:=by have:=N.size;simp at this;omega
   obtain ⟨k0,b0,n0,s0,l0,l1⟩:=(show Zi from .mk p0 p1 p2 p3 p4 p5)
   have a4:=b5
   simp only [Za4] at a4
   obtain ⟨y,z,f,r,rfl,-⟩:=a4
   have f8:=Zb b5
   have m:=i6.out.below b8.out b1
   obtain ⟨u0,d0⟩:=Option.isSome_iff_exists.1 (m (j*6) (by omega)).1
   obtain ⟨u1,d1⟩:=Option.isSome_iff_exists.1 (m (j*6+1) (by omega)).1
   obtain ⟨u2,d2⟩:=Option.isSome_iff_exists.1 (m (j*6+2) (by omega)).1
   obtain ⟨u3,d3⟩:=Option.isSome_iff_exists.1 (m (j*6+3) (by omega)).1
   obtain ⟨u4,d4⟩:=Option.isSome_iff_exists.1 (m (j*6+4) (by omega)).1
   obtain ⟨u5,d5⟩:=Option.isSome_iff_exists.1 (m (j*6+5) (by omega)).1
   have f0:=(m (j*6) (by omega)).2
   have f1:=(m (j*6+1) (by omega)).2
   have f2:=(m (j*6+2) (by omega)).2
   have f3:=(m (j*6+3) (by omega)).2
   have f4:=(m (j*6+4) (by omega)).2
   have f5:=(m (j*6+5) (by omega)).2
   have b3:=Zb m
   clear b5 N m c0 c1 c2 c3 c4 c5 HC
   go_wp2_with fail
   clear d0 d1 d2 d3 d4 d5 f0 f1 f2 f3 f4 f5
   rw [Jez]
   go_roundw
   case rel =>
    refine ⟨j+1,by omega,by go_num,Znj (X.out.trans (b8.out.mono X.out.size)) (Nat.le_refl _) _ _ _ _ _ _,by rw [Zlr];omega,b3.out.six (by omega) _ _ _ _ _ _,?_⟩
    exact Ztz HX.out b1 b8.out d7.out (by simp;omega) f8.out (fun q hq=>(b3.out _ (by omega)).1) (b3.out _ (by omega)).2
   case measure=>simp [intOf];omega
  ·have HT:Hid (ts.take j=ts):=List.take_of_length_le (by omega)
   have g9:Hid (KidsF (w.heap.size+1) wr.heap.size wr w.heap.size 0 ts):=by have:=d7.out;rwa [HT.out] at this
   go_wp2_with fail
   go_ret
   refine ⟨some ⟨w.heap.size,0,none⟩,rfl,?_,X.out⟩
   exact .inr ⟨w.heap.size,0,rfl,Nat.le_refl _,b1,g9.out.mono (by omega) (Nat.le_refl _)⟩
theorem Zp5 (ts:List Zi) (ih:∀ t ∈ ts,Zp4 t) (B:Nat) (la:Option Addr) (lc:Nat) (w:World) (hB:B<=w.heap.size) (hl:Zbi B w la ts) (h1:ts.length<=lc) (h2:lc<=maxLen) (I:Zi.totalL ts<=2000000) :
  Calls Tryz.prog 183 #[.slice la ts.length lc] w fun e w'=>∃ f r,e=.returned (.slice f ts.length r)/\(ts.length<=r/\r<=maxLen)/\Zml w.heap.size w'.heap.size w' f ts/\Below w.heap.size w w':=by
 cases la with
 | none =>
  have h0:ts=[]:=hl.elim id fun ⟨c,off,e,_⟩=>by cases e
  subst h0
  refine (Ztb 0 lc w).mono ?_
  rintro e w' ⟨rfl,rfl⟩
  exact ⟨none,0,rfl,⟨Nat.le_refl _,by unfold maxLen;omega⟩,.inl rfl,Below.refl _ _⟩
 | some a =>
  refine (Zov ts ih B a lc w hB hl h1 h2 I).mono ?_
  rintro e w' ⟨f,rfl,i4,H⟩
  exact ⟨f,ts.length,rfl,⟨Nat.le_refl _,by have:=totalL_len ts;unfold maxLen;omega⟩,i4,H⟩
theorem Zk5 (B:Nat) (ka:Option Addr) (kc:Nat) (ks:List ByteArray) (w:World) (G:Zab B w ka ks) (hl:ks.length<=2000000) :
  Calls Tryz.prog 99 #[.slice ka ks.length kc] w fun e w'=>∃ y z,e=.returned (.slice y ks.length z)/\(ks.length<=z/\z<=maxLen)/\Zfs w.heap.size w'.heap.size w' y ks/\Below w.heap.size w w':=by
 by_cases h0:ks=[]
 ·subst h0
  cases ka with
  | none =>
   refine (Tryz.slices_Clone_string_nil 0 kc w).mono ?_
   rintro e w' ⟨rfl,rfl⟩
   exact ⟨none,0,rfl,⟨Nat.le_refl _,by unfold maxLen;omega⟩,.inl rfl,Below.refl _ _⟩
  | some a =>
   refine (Tryz.slices_Clone_string_zero a kc w).mono ?_
   rintro e w' ⟨v',rfl,ho,_,H⟩
   obtain ⟨_,⟨rfl,_⟩ | ⟨g,cap,cur,rfl,_,_,h5,h6,_⟩⟩:=ho
   ·exact ⟨none,0,rfl,⟨Nat.le_refl _,by unfold maxLen;omega⟩,.inl rfl,H⟩
   ·exact ⟨some ⟨g,0,none⟩,cap,rfl,⟨h5,h6⟩,.inl rfl,H⟩
 ·obtain ⟨b,off,rfl,b2,S⟩:=G.resolve_left h0
  refine (Tryz.slices_Clone_string b off ks.length kc ks w (Nat.le_refl _) (by omega) (fun j hj=>(S j hj).1)).mono ?_
  rintro e w' ⟨v',rfl,ho,_,H⟩
  have c6:=ho
  rw [List.take_length] at ho
  obtain ⟨_,⟨_,h2⟩ | ⟨g,cap,cur,rfl,h3,h4,h5,h6,_⟩⟩:=ho
  ·exact absurd (List.eq_nil_of_length_eq_zero h2) h0
  ·refine ⟨some ⟨g,0,none⟩,cap,rfl,⟨h5,h6⟩,.inr ⟨g,0,rfl,h3,?_,fun i hi=>⟨?_,(S i hi).2,?_⟩⟩,H⟩
   ·rcases Nat.lt_or_ge g w'.heap.size with h | h
    ·exact h
    ·rw [Array.getElem?_eq_none h] at h4;cases h4
   ·have:=c6.cells (g:=g) rfl i (.string (ks.getD i ⟨#[]⟩)) (by rw [List.take_length,List.getElem?_map,List.getElem?_eq_getElem hi,List.getD_eq_getElem?_getD,List.getElem?_eq_getElem hi];rfl)
    rw [add_plain] at this
    exact this
   ·exact c6.frozenAt _
theorem Zyk  : ∀ T,Zp4 T:=by
 refine Zi.ind ?_
 intro k x n s ks ts ih B v w hB M I
 simp only [Zaw] at M
 obtain ⟨ka,kc,la,lc,rfl,⟨h9,k4,a0,i3,f9⟩,G,ht⟩:=M
 simp only [Zi.total] at I
 have j9:=Jz ks
 have k3:=totalL_len ts
 obtain ⟨W,hW⟩:∃ W,(w.alloc (.cells #[.int .i64 k,.bool x,.int .i64 n,.string s,.slice ka ks.length kc,.slice la ts.length lc] 60)).alloc (.cells #[.int .i64 0,.bool false,.int .i64 0,.string ⟨#[]⟩,.slice none 0 0,.slice none 0 0] 60)=W:=⟨_,rfl⟩
 have HX:Hid (∀ w1,Below W.heap.size W w1->(Below w.heap.size w w1/\(∀ i v,(#[Value.int .i64 k,.bool x,.int .i64 n,.string s,.slice ka ks.length kc,.slice la ts.length lc]:Array Value)[i]?=some v->w1.cell? ⟨w.heap.size,i,none⟩=some v)/\(∀ i v,(#[Value.int .i64 0,.bool false,.int .i64 0,.string ⟨#[]⟩,.slice none 0 0,.slice none 0 0]:Array Value)[i]?=some v->w1.cell? ⟨w.heap.size+1,i,none⟩=some v)) /\
   (∀ i,w1.frozen? ⟨w.heap.size,i,none⟩=false)/\(∀ i,w1.frozen? ⟨w.heap.size+1,i,none⟩=false)):=fun w1 H=>by
  rw [<- hW] at H
  exact ⟨Zgl H,Zst H⟩
 have e8:W.heap.size=w.heap.size+2:=by rw [<- hW];simp
 have g5:=(HX.out W (Below.refl _ _)).1.1
 have c8:=Zb (Zk5 B ka kc ks W (G.below (g5.mono hB)) (by omega))
 have b4:Hid (∀ w1,Below w.heap.size w w1->Zbi B w1 la ts):=fun w1 H=>Zbi.below ht (H.mono hB)
 have a9:=Zb ih
 have HW:=Zb hW
 have g8:Hid (Zi.totalL ts<=2000000):=by show _<=_;omega
 clear G ht ih hW
 go_enter Tryz.func147,Tryz.ntmps147
 go_wp2_with fail
 rw [HW.out]
 refine c8.out.mono ?_
 rintro e E ⟨y,z,rfl,⟨e9,i9⟩,e2,N⟩
 obtain ⟨⟨a7,hq,hr⟩,fz,fy⟩:=HX.out E N
 have q0:=hq 0 _ rfl
 have q1:=hq 1 _ rfl
 have q2:=hq 2 _ rfl
 have q3:=hq 3 _ rfl
 have q4:=hq 4 _ rfl
 have q5:=hq 5 _ rfl
 have f4:=fz 4
 have j0:=Zb N
 have d9:=Zb a7
 have j2:=Zb e2
 have Q:=Zb (And.intro hr (And.intro fz fy))
 clear N a7 e2 hq hr fz fy c8 HW
 go_wp2_with fail
 have V:Below w.heap.size w (E.setCell ⟨w.heap.size,4,none⟩ (.slice y ks.length z)):=d9.out.setCell (p:=⟨w.heap.size,4,none⟩) (Nat.le_refl _) _
 refine (Zp5 ts a9.out B la lc _ (Nat.le_trans hB V.size) (b4.out _ V) i3 f9 g8.out).mono ?_
 rintro e R ⟨f,r,rfl,⟨g1,g2⟩,b9,Y⟩
 obtain ⟨w3,L⟩:∃ w3,E.setCell ⟨w.heap.size,4,none⟩ (.slice y ks.length z)=w3:=⟨_,rfl⟩
 rw [L] at b9 Y V
 have a6:w.heap.size+2<=E.heap.size:=by have:=j0.out.size;omega
 have a0:w3.heap.size=E.heap.size:=by rw [<- L];simp
 have F:∀ b o,b<E.heap.size->¬ (b=w.heap.size/\o=4)->w3.cell? ⟨b,o,none⟩=E.cell? ⟨b,o,none⟩:=fun b o _ h=>by
  rw [<- L];exact World.cell?_setCell_other _ _ _ _ (fun e=>h (by simp only [Addr.mk.injEq] at e;omega))
 have D:∀ b o,b<E.heap.size->R.cell? ⟨b,o,none⟩=w3.cell? ⟨b,o,none⟩:=fun b o h=>Y.cell (p:=⟨b,o,none⟩) (by rw [a0];exact h)
 have K:∀ b o,b<E.heap.size->R.frozen? ⟨b,o,none⟩=E.frozen? ⟨b,o,none⟩:=fun b o h=>by
  rw [Y.frozen (p:=⟨b,o,none⟩) (by rw [a0];exact h),<- L,World.frozen?_setCell]
 have c0:=(D w.heap.size 0 (by omega)).trans ((F _ _ (by omega) (by omega)).trans q0)
 have c1:=(D w.heap.size 1 (by omega)).trans ((F _ _ (by omega) (by omega)).trans q1)
 have c2:=(D w.heap.size 2 (by omega)).trans ((F _ _ (by omega) (by omega)).trans q2)
 have c3:=(D w.heap.size 3 (by omega)).trans ((F _ _ (by omega) (by omega)).trans q3)
 have c4:R.cell? ⟨w.heap.size,4,none⟩=some (.slice y ks.length z):=(D w.heap.size 4 (by omega)).trans (by rw [<- L];exact World.cell?_setCell_same _ _ _ q4)
 have c5:=(D w.heap.size 5 (by omega)).trans ((F _ _ (by omega) (by omega)).trans q5)
 have d0:=(D (w.heap.size+1) 0 (by omega)).trans ((F _ _ (by omega) (by omega)).trans (Q.out.1 0 _ rfl))
 have d1:=(D (w.heap.size+1) 1 (by omega)).trans ((F _ _ (by omega) (by omega)).trans (Q.out.1 1 _ rfl))
 have d2:=(D (w.heap.size+1) 2 (by omega)).trans ((F _ _ (by omega) (by omega)).trans (Q.out.1 2 _ rfl))
 have d3:=(D (w.heap.size+1) 3 (by omega)).trans ((F _ _ (by omega) (by omega)).trans (Q.out.1 3 _ rfl))
 have d4:=(D (w.heap.size+1) 4 (by omega)).trans ((F _ _ (by omega) (by omega)).trans (Q.out.1 4 _ rfl))
 have d5:=(D (w.heap.size+1) 5 (by omega)).trans ((F _ _ (by omega) (by omega)).trans (Q.out.1 5 _ rfl))
 have e5:=(K w.heap.size 5 (by omega)).trans (Q.out.2.1 5)
 have y0:=(K (w.heap.size+1) 0 (by omega)).trans (Q.out.2.2 0)
 have y1:=(K (w.heap.size+1) 1 (by omega)).trans (Q.out.2.2 1)
 have y2:=(K (w.heap.size+1) 2 (by omega)).trans (Q.out.2.2 2)
 have y3:=(K (w.heap.size+1) 3 (by omega)).trans (Q.out.2.2 3)
 have y4:=(K (w.heap.size+1) 4 (by omega)).trans (Q.out.2.2 4)
 have y5:=(K (w.heap.size+1) 5 (by omega)).trans (Q.out.2.2 5)
 have h8:=Zb b9
 have i1:=Zb Y
 have d8:Hid (Below w.heap.size w R):=V.trans (Y.mono V.size)
 have b6:=Zb a0
 have c9:=Zb a6
 have j4:=Zb F
 have g6:=Zb D
 have f6:=Zb K
 clear b9 Y V a0 a6 F D K q0 q1 q2 q3 q4 q5 f4 Q
 go_wp2_with fail
 have g7:Hid (Below w.heap.size w (six (R.setCell ⟨w.heap.size,5,none⟩ (.slice f ts.length r)) (w.heap.size+1) 0 (.int .i64 k) (.bool x) (.int .i64 n) (.string s) (.slice y ks.length z) (.slice f ts.length r))) :=
  Znj (d8.out.setCell (p:=⟨w.heap.size,5,none⟩) (Nat.le_refl _) _) (by omega) _ _ _ _ _ _
 refine bodyPost_ret (v:=.agg #[.int .i64 k,.bool x,.int .i64 n,.string s,.slice y ks.length z,.slice f ts.length r]) (by simp [results,Tryz.results147,go_sem,d0,d1,d2,d3,d4,d5]) rfl ⟨_,rfl,?_,g7.out⟩
 show Za4 w.heap.size (six (R.setCell ⟨w.heap.size,5,none⟩ (.slice f ts.length r)) (w.heap.size+1) 0 (.int .i64 k) (.bool x) (.int .i64 n) (.string s) (.slice y ks.length z) (.slice f ts.length r)).heap.size (six (R.setCell ⟨w.heap.size,5,none⟩ (.slice f ts.length r)) (w.heap.size+1) 0 (.int .i64 k) (.bool x) (.int .i64 n) (.string s) (.slice y ks.length z) (.slice f ts.length r)) _ _
 have a5:∀ d O,w.heap.size+2<=d->Zb9 d O R (six (R.setCell ⟨w.heap.size,5,none⟩ (.slice f ts.length r)) (w.heap.size+1) 0 (.int .i64 k) (.bool x) (.int .i64 n) (.string s) (.slice y ks.length z) (.slice f ts.length r)):=fun d O h b o h1 _=>by
  rw [Zlq (fun e=>by omega),Zdn,World.frozen?_setCell]
  exact ⟨World.cell?_setCell_other _ _ _ _ (fun e=>by simp only [Addr.mk.injEq] at e;omega),rfl⟩
 have h7:(six (R.setCell ⟨w.heap.size,5,none⟩ (.slice f ts.length r)) (w.heap.size+1) 0 (.int .i64 k) (.bool x) (.int .i64 n) (.string s) (.slice y ks.length z) (.slice f ts.length r)).heap.size=R.heap.size:=by rw [Zlr];simp
 rw [h7]
 simp only [Za4]
 refine ⟨y,z,f,r,rfl,⟨h9,e9,i9,g1,g2⟩,?_,?_⟩
 ·have k1:Zfs (w.heap.size+2) E.heap.size E y ks:=e8▸j2.out
  have k2:Zfs (w.heap.size+2) E.heap.size R y ks:=k1.keep (fun b o h1 h2=>⟨(g6.out b o h2).trans (j4.out b o h2 (by omega)),f6.out b o h2⟩)
  exact (k2.keep (a5 _ _ (Nat.le_refl _))).mono (by omega) (by have:=i1.out.size;have:=b6.out;omega)
 ·have l1:Zml w3.heap.size R.heap.size R f ts:=h8.out
  exact (l1.keep (a5 _ _ (by have:=b6.out;have:=c9.out;omega))).mono (by have:=b6.out;have:=c9.out;omega) (Nat.le_refl _)
