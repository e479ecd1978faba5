/- A copy lies in memory of its own that may be written. -/
import Derived.Test.YteddjlbfbpecjaaGreatDoorJoin15
import Derived.Laws.OwnMore
namespace Go.Proofs.YteddjlbfbpecjaaGreatDoor
open Go.RowKit Go.Shelf Go.WideShapes
set_option maxHeartbeats 2000000
set_option maxRecDepth 100000
set_option linter.all false
def Zfh (lo B:Nat) (w:World) (ad:Option Addr) (ks:List ByteArray):Prop :=
 ks=[]∨∃ b off,ad=some ⟨b,off,none⟩∧lo≤b∧b<B∧∀ i,i<ks.length→w.cell? ⟨b,off+i,none⟩=some (.string (ks.getD i ⟨#[]⟩))∧(ks.getD i ⟨#[]⟩).size≤maxLen∧w.frozen? ⟨b,off+i,none⟩=false
mutual
def Zay (lo B:Nat) (w:World):Value→Zk→Prop
 | v,.mk k b n s ks ts=>∃ ka kc la lc,v=.agg #[.int .i64 k,.bool b,.int .i64 n,.string s,.slice ka ks.length kc,.slice la ts.length lc] ∧
   (s.size≤maxLen∧ks.length≤kc∧kc≤maxLen∧ts.length≤lc∧lc≤maxLen)∧Zfh lo B w ka ks∧(ts=[]∨∃ bl off,la=some ⟨bl,off,none⟩∧lo≤bl∧bl<B∧KidsF lo B w bl off ts)
def KidsF (lo B:Nat) (w:World) (bl:Nat):Nat→List Zk→Prop
 | _,[]=>True
 | off,t::ts=>(∃ v0 v1 v2 v3 v4 v5,(w.cell? ⟨bl,off,none⟩=some v0∧w.cell? ⟨bl,off+1,none⟩=some v1∧w.cell? ⟨bl,off+2,none⟩=some v2∧w.cell? ⟨bl,off+3,none⟩=some v3 ∧
   w.cell? ⟨bl,off+4,none⟩=some v4∧w.cell? ⟨bl,off+5,none⟩=some v5)∧w.frozen? ⟨bl,off,none⟩=false∧Zay lo B w (.agg #[v0,v1,v2,v3,v4,v5]) t)∧KidsF lo B w bl (off+6) ts
end
def Zk0 (lo B:Nat) (w:World) (la:Option Addr) (ts:List Zk):Prop:=ts=[]∨∃ bl off,la=some ⟨bl,off,none⟩∧lo≤bl∧bl<B∧KidsF lo B w bl off ts
theorem Zfh.lie {lo B:Nat} {w:World} {ad:Option Addr} {ks:List ByteArray} (h:Zfh lo B w ad ks):Jv B w ad ks :=
 h.imp id fun ⟨b,off,h1,_,h2,h3⟩=>⟨b,off,h1,h2,fun i hi=>⟨(h3 i hi).1,(h3 i hi).2.1⟩⟩
mutual
theorem Zay.lie {lo B:Nat} {w:World}:∀ {v:Value} {T:Zk},Zay lo B w v T→Zaw B w v T
 | v,.mk k b n s ks ts,h=>by
  simp only [Zay] at h
  obtain ⟨ka,kc,la,lc,hv,hs,hk,ht⟩:=h
  simp only [Zaw]
  exact ⟨ka,kc,la,lc,hv,hs,hk.lie,ht.imp id fun ⟨bl,off,h1,_,h2,h3⟩=>⟨bl,off,h1,h2,KidsF.lie h3⟩⟩
theorem KidsF.lie {lo B:Nat} {w:World} {bl:Nat}:∀ {off:Nat} {ts:List Zk},KidsF lo B w bl off ts→KidsLie B w bl off ts
 | off,[],_=>by simp only [KidsLie]
 | off,t::ts,h=>by
  simp only [KidsF] at h
  obtain ⟨⟨v0,v1,v2,v3,v4,v5,hc,_,hv⟩,hr⟩:=h
  simp only [KidsLie]
  exact ⟨⟨v0,v1,v2,v3,v4,v5,hc,Zay.lie hv⟩,KidsF.lie hr⟩
end
def Zcc (lo B:Nat) (w w':World):Prop:=∀ b o,lo≤b→b<B→w'.cell? ⟨b,o,none⟩=w.cell? ⟨b,o,none⟩∧w'.frozen? ⟨b,o,none⟩=w.frozen? ⟨b,o,none⟩
theorem Zfh.keep {lo B:Nat} {w w':World} (hk:Zcc lo B w w') {ad:Option Addr} {ks:List ByteArray} (h:Zfh lo B w ad ks):Zfh lo B w' ad ks :=
 h.imp id fun ⟨b,off,h1,h2,h3,h4⟩=>⟨b,off,h1,h2,h3,fun i hi=>⟨(hk b _ h2 h3).1.trans (h4 i hi).1,(h4 i hi).2.1,(hk b _ h2 h3).2.trans (h4 i hi).2.2⟩⟩
mutual
theorem Zay.keep {lo B:Nat} {w w':World} (hk:Zcc lo B w w'):∀ {v:Value} {T:Zk},Zay lo B w v T→Zay lo B w' v T
 | v,.mk k b n s ks ts,h=>by
  simp only [Zay] at h ⊢
  obtain ⟨ka,kc,la,lc,hv,hs,hks,ht⟩:=h
  exact ⟨ka,kc,la,lc,hv,hs,hks.keep hk,ht.imp id fun ⟨bl,off,h1,h2,h3,h4⟩=>⟨bl,off,h1,h2,h3,KidsF.keep hk h2 h3 h4⟩⟩
theorem KidsF.keep {lo B:Nat} {w w':World} (hk:Zcc lo B w w') {bl:Nat} (h1:lo≤bl) (h2:bl<B):∀ {off:Nat} {ts:List Zk},KidsF lo B w bl off ts→KidsF lo B w' bl off ts
 | off,[],_=>by simp only [KidsF]
 | off,t::ts,h=>by
  simp only [KidsF] at h ⊢
  obtain ⟨⟨v0,v1,v2,v3,v4,v5,⟨c0,c1,c2,c3,c4,c5⟩,hf,hv⟩,hr⟩:=h
  exact ⟨⟨v0,v1,v2,v3,v4,v5,⟨(hk bl _ h1 h2).1.trans c0,(hk bl _ h1 h2).1.trans c1,(hk bl _ h1 h2).1.trans c2,(hk bl _ h1 h2).1.trans c3,(hk bl _ h1 h2).1.trans c4,(hk bl _ h1 h2).1.trans c5⟩,(hk bl _ h1 h2).2.trans hf,Zay.keep hk hv⟩,KidsF.keep hk h1 h2 hr⟩
end
theorem Zfh.mono {lo lo' B B':Nat} {w:World} (h1:lo'≤lo) (h2:B≤B') {ad:Option Addr} {ks:List ByteArray} (h:Zfh lo B w ad ks):Zfh lo' B' w ad ks :=
 h.imp id fun ⟨b,off,g1,g2,g3,g4⟩=>⟨b,off,g1,Nat.le_trans h1 g2,Nat.lt_of_lt_of_le g3 h2,g4⟩
mutual
theorem Zay.mono {lo lo' B B':Nat} {w:World} (h1:lo'≤lo) (h2:B≤B'):∀ {v:Value} {T:Zk},Zay lo B w v T→Zay lo' B' w v T
 | v,.mk k b n s ks ts,h=>by
  simp only [Zay] at h ⊢
  obtain ⟨ka,kc,la,lc,hv,hs,hks,ht⟩:=h
  exact ⟨ka,kc,la,lc,hv,hs,hks.mono h1 h2,ht.imp id fun ⟨bl,off,g1,g2,g3,g4⟩=>⟨bl,off,g1,Nat.le_trans h1 g2,Nat.lt_of_lt_of_le g3 h2,KidsF.mono h1 h2 g4⟩⟩
theorem KidsF.mono {lo lo' B B':Nat} {w:World} (h1:lo'≤lo) (h2:B≤B') {bl:Nat}:∀ {off:Nat} {ts:List Zk},KidsF lo B w bl off ts→KidsF lo' B' w bl off ts
 | off,[],_=>by simp only [KidsF]
 | off,t::ts,h=>by
  simp only [KidsF] at h ⊢
  obtain ⟨⟨v0,v1,v2,v3,v4,v5,hc,hf,hv⟩,hr⟩:=h
  exact ⟨⟨v0,v1,v2,v3,v4,v5,hc,hf,Zay.mono h1 h2 hv⟩,KidsF.mono h1 h2 hr⟩
end
theorem Zk0.mono {lo lo' B B':Nat} {w:World} (h1:lo'≤lo) (h2:B≤B') {la:Option Addr} {ts:List Zk} (h:Zk0 lo B w la ts):Zk0 lo' B' w la ts :=
 h.imp id fun ⟨bl,off,g1,g2,g3,g4⟩=>⟨bl,off,g1,Nat.le_trans h1 g2,Nat.lt_of_lt_of_le g3 h2,g4.mono h1 h2⟩
theorem Zk0.keep {lo B:Nat} {w w':World} (hk:Zcc lo B w w') {la:Option Addr} {ts:List Zk} (h:Zk0 lo B w la ts):Zk0 lo B w' la ts :=
 h.imp id fun ⟨bl,off,h1,h2,h3,h4⟩=>⟨bl,off,h1,h2,h3,h4.keep hk h2 h3⟩
theorem Zc5 {lo B:Nat} {w w':World} (hb:Below w.heap.size w w') (h:B≤w.heap.size):Zcc lo B w w':=fun b o _ h2=>⟨hb.cell (p:=⟨b,o,none⟩) (Nat.lt_of_lt_of_le h2 h),hb.frozen (p:=⟨b,o,none⟩) (Nat.lt_of_lt_of_le h2 h)⟩
theorem Zpz {lo B bl:Nat} {w:World}:∀ (l:List Zk) (off:Nat),(∀ (i:Nat) (t:Zk),l[i]?=some t→∃ v0 v1 v2 v3 v4 v5,(w.cell? ⟨bl,off+i*6,none⟩=some v0∧w.cell? ⟨bl,off+i*6+1,none⟩=some v1∧w.cell? ⟨bl,off+i*6+2,none⟩=some v2∧w.cell? ⟨bl,off+i*6+3,none⟩=some v3 ∧
   w.cell? ⟨bl,off+i*6+4,none⟩=some v4∧w.cell? ⟨bl,off+i*6+5,none⟩=some v5)∧w.frozen? ⟨bl,off+i*6,none⟩=false∧Zay lo B w (.agg #[v0,v1,v2,v3,v4,v5]) t)→KidsF lo B w bl off l
 | [],off,h=>by simp only [KidsF]
 | t::l,off,h=>by
  rw [KidsF]
  refine ⟨?_,Zpz l (off+6) fun i u hu=>?_⟩
  ·have:=h 0 t rfl
   simpa using this
  ·have:=h (i+1) u (by simpa using hu)
   have e:off+(i+1)*6=off+6+i*6:=by omega
   rwa [e] at this
theorem KidsF.at {lo B:Nat} {w:World} {bl:Nat}:∀ {ts:List Zk} {off:Nat},KidsF lo B w bl off ts→∀ {i:Nat} {t:Zk},ts[i]?=some t →
  ∃ v0 v1 v2 v3 v4 v5,(w.cell? ⟨bl,off+i*6,none⟩=some v0∧w.cell? ⟨bl,off+i*6+1,none⟩=some v1∧w.cell? ⟨bl,off+i*6+2,none⟩=some v2∧w.cell? ⟨bl,off+i*6+3,none⟩=some v3 ∧
   w.cell? ⟨bl,off+i*6+4,none⟩=some v4∧w.cell? ⟨bl,off+i*6+5,none⟩=some v5)∧w.frozen? ⟨bl,off+i*6,none⟩=false∧Zay lo B w (.agg #[v0,v1,v2,v3,v4,v5]) t
 | t::ts,off,h,0,u,hu=>by
  simp only [KidsF] at h
  simp only [List.getElem?_cons_zero,Option.some.injEq] at hu
  subst hu
  simpa using h.1
 | t::ts,off,h,i+1,u,hu=>by
  simp only [KidsF] at h
  have:=KidsF.at h.2 (i:=i) (by simpa using hu)
  have e:off+(i+1)*6=off+6+i*6:=by omega
  rwa [e]
def Zn4 (T:Zk):Prop:=∀ (B:Nat) (v:Value) (w:World),B≤w.heap.size→Zaw B w v T→T.total≤2000000 →
 Calls Tryz.prog 147 #[v] w fun e w'=>∃ v',e=.returned v'∧Zay w.heap.size w'.heap.size w' v' T∧Below w.heap.size w w'
theorem Zrd {ts:List Zk} {t:Zk} {g j lo:Nat} {wr w2:World} (hx:ts[j]?=some t) (hg:g<wr.heap.size) (hb:Below wr.heap.size wr w2) (hk:KidsF (g+1) wr.heap.size wr g 0 (ts.take j)) {v0 v1 v2 v3 v4 v5:Value}
  (hlo:g+1≤lo) (hv:Zay lo w2.heap.size w2 (.agg #[v0,v1,v2,v3,v4,v5]) t) (hr:∀ q,q<6→(w2.cell? ⟨g,j*6+q,none⟩).isSome=true) (hfz:w2.frozen? ⟨g,j*6,none⟩=false) :
  KidsF (g+1) (six w2 g (j*6) v0 v1 v2 v3 v4 v5).heap.size (six w2 g (j*6) v0 v1 v2 v3 v4 v5) g 0 (ts.take (j+1)):=by
 have hjl:j<ts.length:=(List.getElem?_eq_some_iff.1 hx).1
 have hkeep:∀ (lo':Nat),g+1≤lo'→∀ B,Zcc lo' B w2 (six w2 g (j*6) v0 v1 v2 v3 v4 v5):=fun lo' h B b o h1 _=>⟨Zkb (fun e=>by omega),Zdb _⟩
 refine Zpz _ 0 fun i u hu=>?_
 simp only [Nat.zero_add]
 rw [Zkc]
 by_cases hij:i=j
 ·subst hij
  have:u=t:=by
   rw [Zhz hx,List.getElem?_append_right (by simp;omega)] at hu
   simp [show min i ts.length=i by omega] at hu
   exact hu.symm
  subst this
  obtain ⟨c0,c1,c2,c3,c4,c5⟩:=Zyv (w:=w2) (b:=g) (o:=i*6) (v0:=v0) (v1:=v1) (v2:=v2) (v3:=v3) (v4:=v4) (v5:=v5) hr
  exact ⟨v0,v1,v2,v3,v4,v5,⟨c0,c1,c2,c3,c4,c5⟩,by rw [Zdb];exact hfz,(hv.keep (hkeep lo hlo _)).mono hlo (Nat.le_refl _)⟩
 ·have hil:i<j:=by
   have h:=(List.getElem?_eq_some_iff.1 hu).1
   simp at h;omega
  have hu':(ts.take j)[i]?=some u:=by
   rw [Zhz hx,List.getElem?_append_left (by simp;omega)] at hu
   exact hu
  obtain ⟨x0,x1,x2,x3,x4,x5,⟨c0,c1,c2,c3,c4,c5⟩,hf,hl⟩:=hk.at hu'
  simp only [Nat.zero_add] at c0 c1 c2 c3 c4 c5 hf
  have hc:∀ o v,o<i*6+6→wr.cell? ⟨g,o,none⟩=some v→(six w2 g (j*6) v0 v1 v2 v3 v4 v5).cell? ⟨g,o,none⟩=some v:=fun o v ho h=>by
   rw [Zkb (fun _=>.inl (by omega)),hb.cell (p:=⟨g,o,none⟩) hg];exact h
  exact ⟨x0,x1,x2,x3,x4,x5,⟨hc _ _ (by omega) c0,hc _ _ (by omega) c1,hc _ _ (by omega) c2,hc _ _ (by omega) c3,hc _ _ (by omega) c4,hc _ _ (by omega) c5⟩,(by rw [Zdb,hb.frozen (p:=⟨g,i*6,none⟩) hg];exact hf),
   ((hl.keep (Zc5 hb (Nat.le_refl _))).mono (Nat.le_refl _) hb.size).keep (hkeep _ (Nat.le_refl _) _)⟩
theorem Zms (ts:List Zk) (ih:∀ t ∈ ts,Zn4 t) (B:Nat) (a:Addr) (lc:Nat) (w:World) (hB:B≤w.heap.size) (hl:Za9 B w (some a) ts) (h1:ts.length≤lc) (h2:lc≤maxLen) (htot:Zk.totalL ts≤2000000) :
  Calls Tryz.prog 183 #[.slice (some a) ts.length lc] w fun e w'=>∃ la',e=.returned (.slice la' ts.length ts.length)∧Zk0 w.heap.size w'.heap.size w' la' ts∧Below w.heap.size w w':=by
 unfold maxLen at h2
 obtain ⟨i0,hi,hz0,hz1,hz2⟩:=info_parts Tryz.info60
 have hlen:=totalL_len ts
 have hmk:∀ W:World,(Instr.makeSlice 58 (.int .i64 (ts.length:Int)) (.int .i64 (ts.length:Int))).run Tryz.prog W=.ok (.slice (some ⟨W.heap.size,0,none⟩) ts.length ts.length) (W.alloc (.cells (madeCells #[.int .i64 0,.bool false,.int .i64 0,.string ⟨#[]⟩,.slice none 0 0,.slice none 0 0] (ts.length*6)) 60)):=fun W=>by
  have:=run_makeSlice (P:=Tryz.prog) W 58 60 i0 _ Tryz.underlying58 hi hz0 .i64 .i64 (ts.length:Int) (ts.length:Int) (by omega) (by omega) (by rw [hz1];omega) (by rw [hz2];omega) (by omega)
  simpa [hz1,Value.cells] using this
 have heq:∀ W:World,(binOp .eql 58 (.slice (some a) ts.length lc) (.slice none 0 0)).run Tryz.prog W=.ok (.bool false) W:=fun W=>by
  have:=Lib.run_eql_slice_nil (P:=Tryz.prog) W 58 60 (some a) ts.length lc 0 0 Tryz.underlying58
  simpa using this
 obtain ⟨W1,hW1⟩:∃ W1,w.alloc (.cells (madeCells #[.int .i64 0,.bool false,.int .i64 0,.string ⟨#[]⟩,.slice none 0 0,.slice none 0 0] (ts.length*6)) 60)=W1:=⟨_,rfl⟩
 have hb1:Below w.heap.size w W1:=hW1▸(Below.refl _ _).alloc (Nat.le_refl _) _
 have hg1:w.heap.size<W1.heap.size:=by rw [← hW1];simp
 have hroom:Zyw W1 w.heap.size ts.length:=by
  intro o ho
  rw [← hW1]
  have hs:(madeCells #[.int .i64 0,.bool false,.int .i64 0,.string ⟨#[]⟩,.slice none 0 0,.slice none 0 0] (ts.length*6)).size=ts.length*6:=size_madeCells _ _
  refine ⟨?_,?_⟩
  ·rw [Zaf _ _ _ o _ (Array.getElem?_eq_getElem (by rw [hs];exact ho))];rfl
  ·have hn:=World.alloc_heap_new w (.cells (madeCells #[.int .i64 0,.bool false,.int .i64 0,.string ⟨#[]⟩,.slice none 0 0,.slice none 0 0] (ts.length*6)) 60)
   unfold World.frozen?
   simp only [hn]
   simp
 have HLL:=Zb hl
 have HIH:=Zb ih
 have HW1:=Zb hW1
 have HTOT:=Zb htot
 clear hl ih hW1 htot
 go_enter Tryz.func183,Tryz.ntmps183
 go_wp2_with fail
 rw [HW1.out]
 clear hmk heq HW1
 go_loopw [13] (fun i wr=>∃ j:Nat,j≤ts.length∧i=.int .i64 j∧Below w.heap.size w wr∧w.heap.size<wr.heap.size∧Zyw wr w.heap.size ts.length∧KidsF (w.heap.size+1) wr.heap.size wr w.heap.size 0 (ts.take j)) (fun i _=>ts.length - (intOf i).toNat)
 case atStart=>exact ⟨0,Nat.zero_le _,rfl,hb1,hg1,hroom,by simp only [List.take_zero,KidsF]⟩
 case round =>
  obtain ⟨j,hj,rfl,hbr,hgr,hrm,hkids⟩:=hrel
  have HBR:=Zb hbr
  have HRM:=Zb hrm
  have HKI:=Zb hkids
  clear hbr hrm hkids
  by_cases hlt:j<ts.length
  ·obtain ⟨bl,off,ha,hbl,hkk⟩:=(HLL.out.below (HBR.out.mono hB)).resolve_left (by intro e;subst e;simp at hlt)
   obtain rfl:a=⟨bl,off,none⟩:=by simpa using ha
   obtain ⟨⟨p0,p1,p2,p3,p4,p5⟩,hx⟩:∃ t,ts[j]?=some t:=⟨_,List.getElem?_eq_getElem hlt⟩
   obtain ⟨ja,jc,jl,jd,⟨c0,c1,c2,c3,c4,c5⟩,hlx⟩:=hkk.cells hx
   have HX:=Zb hx
   have hm:=Zgh (List.mem_of_getElem? hx)
   have HC:=Zb (HIH.out _ (List.mem_of_getElem? hx) B _ (wr.alloc (.cells #[.int .i64 p0,.bool p1,.int .i64 p2,.string p3,.slice ja p4.length jc,.slice jl p5.length jd] 60)) (by have:=HBR.out.size;simp;omega)
    (hlx.below (((Below.refl _ wr).alloc (Nat.le_refl _) _).mono (Nat.le_trans hB HBR.out.size))) (by have:=HTOT.out;omega))
   clear hkk hlx hx hm
   go_wp2_with fail
   refine HC.out.mono ?_
   rintro e w2 ⟨v2,rfl,hv2,hb2⟩
   have HBA:=Zb (Ze3 hb2)
   have hsz2:wr.heap.size<w2.heap.size:=by have:=hb2.size;simp at this;omega
   obtain ⟨k0,b0,n0,s0,l0,l1⟩:=(show Zk from .mk p0 p1 p2 p3 p4 p5)
   have hv2':=hv2
   simp only [Zay] at hv2'
   obtain ⟨ka',kc',la',lc',rfl,-⟩:=hv2'
   have HV2:=Zb hv2
   have hrm2:=HRM.out.below HBA.out hgr
   obtain ⟨u0,d0⟩:=Option.isSome_iff_exists.1 (hrm2 (j*6) (by omega)).1
   obtain ⟨u1,d1⟩:=Option.isSome_iff_exists.1 (hrm2 (j*6+1) (by omega)).1
   obtain ⟨u2,d2⟩:=Option.isSome_iff_exists.1 (hrm2 (j*6+2) (by omega)).1
   obtain ⟨u3,d3⟩:=Option.isSome_iff_exists.1 (hrm2 (j*6+3) (by omega)).1
   obtain ⟨u4,d4⟩:=Option.isSome_iff_exists.1 (hrm2 (j*6+4) (by omega)).1
   obtain ⟨u5,d5⟩:=Option.isSome_iff_exists.1 (hrm2 (j*6+5) (by omega)).1
   have f0:=(hrm2 (j*6) (by omega)).2
   have f1:=(hrm2 (j*6+1) (by omega)).2
   have f2:=(hrm2 (j*6+2) (by omega)).2
   have f3:=(hrm2 (j*6+3) (by omega)).2
   have f4:=(hrm2 (j*6+4) (by omega)).2
   have f5:=(hrm2 (j*6+5) (by omega)).2
   have HR2:=Zb hrm2
   clear hv2 hb2 hrm2 c0 c1 c2 c3 c4 c5 HC
   go_wp2_with fail
   clear d0 d1 d2 d3 d4 d5 f0 f1 f2 f3 f4 f5
   rw [Jb0]
   go_roundw
   case rel =>
    refine ⟨j+1,by omega,by go_num,Zlv (HBR.out.trans (HBA.out.mono HBR.out.size)) (Nat.le_refl _) _ _ _ _ _ _,by rw [Zkc];omega,HR2.out.six (by omega) _ _ _ _ _ _,?_⟩
    exact Zrd HX.out hgr HBA.out HKI.out (by simp;omega) HV2.out (fun q hq=>(HR2.out _ (by omega)).1) (HR2.out _ (by omega)).2
   case measure=>simp [intOf];omega
  ·have HT:Hid (ts.take j=ts):=List.take_of_length_le (by omega)
   have HK2:Hid (KidsF (w.heap.size+1) wr.heap.size wr w.heap.size 0 ts):=by have:=HKI.out;rwa [HT.out] at this
   go_wp2_with fail
   go_ret
   refine ⟨some ⟨w.heap.size,0,none⟩,rfl,?_,HBR.out⟩
   exact .inr ⟨w.heap.size,0,rfl,Nat.le_refl _,hgr,HK2.out.mono (by omega) (Nat.le_refl _)⟩
theorem Zn5 (ts:List Zk) (ih:∀ t ∈ ts,Zn4 t) (B:Nat) (la:Option Addr) (lc:Nat) (w:World) (hB:B≤w.heap.size) (hl:Za9 B w la ts) (h1:ts.length≤lc) (h2:lc≤maxLen) (htot:Zk.totalL ts≤2000000) :
  Calls Tryz.prog 183 #[.slice la ts.length lc] w fun e w'=>∃ la' lc',e=.returned (.slice la' ts.length lc')∧(ts.length≤lc'∧lc'≤maxLen)∧Zk0 w.heap.size w'.heap.size w' la' ts∧Below w.heap.size w w':=by
 cases la with
 | none =>
  have h0:ts=[]:=hl.elim id fun ⟨bl,off,e,_⟩=>by cases e
  subst h0
  refine (Zqw 0 lc w).mono ?_
  rintro e w' ⟨rfl,rfl⟩
  exact ⟨none,0,rfl,⟨Nat.le_refl _,by unfold maxLen;omega⟩,.inl rfl,Below.refl _ _⟩
 | some a =>
  refine (Zms ts ih B a lc w hB hl h1 h2 htot).mono ?_
  rintro e w' ⟨la',rfl,hl',hb⟩
  exact ⟨la',ts.length,rfl,⟨Nat.le_refl _,by have:=totalL_len ts;unfold maxLen;omega⟩,hl',hb⟩
theorem Zjp (B:Nat) (ka:Option Addr) (kc:Nat) (ks:List ByteArray) (w:World) (hk:Jv B w ka ks) (hl:ks.length≤2000000) :
  Calls Tryz.prog 99 #[.slice ka ks.length kc] w fun e w'=>∃ ka' kc',e=.returned (.slice ka' ks.length kc')∧(ks.length≤kc'∧kc'≤maxLen)∧Zfh w.heap.size w'.heap.size w' ka' ks∧Below w.heap.size w w':=by
 by_cases h0:ks=[]
 ·subst h0
  cases ka with
  | none =>
   refine (Tryz.slices_Clone_string_nil 0 kc w).mono ?_
   rintro e w' ⟨rfl,rfl⟩
   exact ⟨none,0,rfl,⟨Nat.le_refl _,by unfold maxLen;omega⟩,.inl rfl,Below.refl _ _⟩
  | some a =>
   refine (Tryz.slices_Clone_string_zero a kc w).mono ?_
   rintro e w' ⟨v',rfl,ho,_,hb⟩
   obtain ⟨_,⟨rfl,_⟩ | ⟨g,cap,cur,rfl,_,_,h5,h6,_⟩⟩:=ho
   ·exact ⟨none,0,rfl,⟨Nat.le_refl _,by unfold maxLen;omega⟩,.inl rfl,hb⟩
   ·exact ⟨some ⟨g,0,none⟩,cap,rfl,⟨h5,h6⟩,.inl rfl,hb⟩
 ·obtain ⟨b,off,rfl,hlt,hc⟩:=hk.resolve_left h0
  refine (Tryz.slices_Clone_string b off ks.length kc ks w (Nat.le_refl _) (by omega) (fun j hj=>(hc j hj).1)).mono ?_
  rintro e w' ⟨v',rfl,ho,_,hb⟩
  have ho':=ho
  rw [List.take_length] at ho
  obtain ⟨_,⟨_,h2⟩ | ⟨g,cap,cur,rfl,h3,h4,h5,h6,_⟩⟩:=ho
  ·exact absurd (List.eq_nil_of_length_eq_zero h2) h0
  ·refine ⟨some ⟨g,0,none⟩,cap,rfl,⟨h5,h6⟩,.inr ⟨g,0,rfl,h3,?_,fun i hi=>⟨?_,(hc i hi).2,?_⟩⟩,hb⟩
   ·rcases Nat.lt_or_ge g w'.heap.size with h | h
    ·exact h
    ·rw [Array.getElem?_eq_none h] at h4;cases h4
   ·have:=ho'.cells (g:=g) rfl i (.string (ks.getD i ⟨#[]⟩)) (by rw [List.take_length,List.getElem?_map,List.getElem?_eq_getElem hi,List.getD_eq_getElem?_getD,List.getElem?_eq_getElem hi];rfl)
    rw [add_plain] at this
    exact this
   ·exact ho'.frozenAt _
theorem Zvf  : ∀ T,Zn4 T:=by
 refine Zk.ind ?_
 intro k x n s ks ts ih B v w hB hv htot
 simp only [Zaw] at hv
 obtain ⟨ka,kc,la,lc,rfl,⟨hs1,hs2,hs3,hs4,hs5⟩,hk,ht⟩:=hv
 simp only [Zk.total] at htot
 have hkb:=Jt ks
 have htl:=totalL_len ts
 obtain ⟨W,hW⟩:∃ W,(w.alloc (.cells #[.int .i64 k,.bool x,.int .i64 n,.string s,.slice ka ks.length kc,.slice la ts.length lc] 60)).alloc (.cells #[.int .i64 0,.bool false,.int .i64 0,.string ⟨#[]⟩,.slice none 0 0,.slice none 0 0] 60)=W:=⟨_,rfl⟩
 have HX:Hid (∀ w1,Below W.heap.size W w1→(Below w.heap.size w w1∧(∀ i v,(#[Value.int .i64 k,.bool x,.int .i64 n,.string s,.slice ka ks.length kc,.slice la ts.length lc]:Array Value)[i]?=some v→w1.cell? ⟨w.heap.size,i,none⟩=some v)∧(∀ i v,(#[Value.int .i64 0,.bool false,.int .i64 0,.string ⟨#[]⟩,.slice none 0 0,.slice none 0 0]:Array Value)[i]?=some v→w1.cell? ⟨w.heap.size+1,i,none⟩=some v)) ∧
   (∀ i,w1.frozen? ⟨w.heap.size,i,none⟩=false)∧(∀ i,w1.frozen? ⟨w.heap.size+1,i,none⟩=false)):=fun w1 hb=>by
  rw [← hW] at hb
  exact ⟨Zf4 hb,Zqc hb⟩
 have hWs:W.heap.size=w.heap.size+2:=by rw [← hW];simp
 have hbW:=(HX.out W (Below.refl _ _)).1.1
 have HCL:=Zb (Zjp B ka kc ks W (hk.below (hbW.mono hB)) (by omega))
 have HLL:Hid (∀ w1,Below w.heap.size w w1→Za9 B w1 la ts):=fun w1 hb=>Za9.below ht (hb.mono hB)
 have HIH:=Zb ih
 have HW:=Zb hW
 have HTT:Hid (Zk.totalL ts≤2000000):=by show _≤_;omega
 clear hk ht ih hW
 go_enter Tryz.func147,Tryz.ntmps147
 go_wp2_with fail
 rw [HW.out]
 refine HCL.out.mono ?_
 rintro e w2 ⟨ka',kc',rfl,⟨hk1,hk2⟩,hkr,hb2⟩
 obtain ⟨⟨hbw2,hq,hr⟩,fz,fy⟩:=HX.out w2 hb2
 have q0:=hq 0 _ rfl
 have q1:=hq 1 _ rfl
 have q2:=hq 2 _ rfl
 have q3:=hq 3 _ rfl
 have q4:=hq 4 _ rfl
 have q5:=hq 5 _ rfl
 have f4:=fz 4
 have HB2:=Zb hb2
 have HBW2:=Zb hbw2
 have HKR:=Zb hkr
 have HR:=Zb (And.intro hr (And.intro fz fy))
 clear hb2 hbw2 hkr hq hr fz fy HCL HW
 go_wp2_with fail
 have hw3:Below w.heap.size w (w2.setCell ⟨w.heap.size,4,none⟩ (.slice ka' ks.length kc')):=HBW2.out.setCell (p:=⟨w.heap.size,4,none⟩) (Nat.le_refl _) _
 refine (Zn5 ts HIH.out B la lc _ (Nat.le_trans hB hw3.size) (HLL.out _ hw3) hs4 hs5 HTT.out).mono ?_
 rintro e w4 ⟨la',lc',rfl,⟨g1,g2⟩,hlr,hb4⟩
 obtain ⟨w3,hw3e⟩:∃ w3,w2.setCell ⟨w.heap.size,4,none⟩ (.slice ka' ks.length kc')=w3:=⟨_,rfl⟩
 rw [hw3e] at hlr hb4 hw3
 have hs2':w.heap.size+2≤w2.heap.size:=by have:=HB2.out.size;omega
 have hs3:w3.heap.size=w2.heap.size:=by rw [← hw3e];simp
 have hc3:∀ b o,b<w2.heap.size→¬ (b=w.heap.size∧o=4)→w3.cell? ⟨b,o,none⟩=w2.cell? ⟨b,o,none⟩:=fun b o _ h=>by
  rw [← hw3e];exact World.cell?_setCell_other _ _ _ _ (fun e=>h (by simp only [Addr.mk.injEq] at e;omega))
 have hc4:∀ b o,b<w2.heap.size→w4.cell? ⟨b,o,none⟩=w3.cell? ⟨b,o,none⟩:=fun b o h=>hb4.cell (p:=⟨b,o,none⟩) (by rw [hs3];exact h)
 have hf4:∀ b o,b<w2.heap.size→w4.frozen? ⟨b,o,none⟩=w2.frozen? ⟨b,o,none⟩:=fun b o h=>by
  rw [hb4.frozen (p:=⟨b,o,none⟩) (by rw [hs3];exact h),← hw3e,World.frozen?_setCell]
 have c0:=(hc4 w.heap.size 0 (by omega)).trans ((hc3 _ _ (by omega) (by omega)).trans q0)
 have c1:=(hc4 w.heap.size 1 (by omega)).trans ((hc3 _ _ (by omega) (by omega)).trans q1)
 have c2:=(hc4 w.heap.size 2 (by omega)).trans ((hc3 _ _ (by omega) (by omega)).trans q2)
 have c3:=(hc4 w.heap.size 3 (by omega)).trans ((hc3 _ _ (by omega) (by omega)).trans q3)
 have c4:w4.cell? ⟨w.heap.size,4,none⟩=some (.slice ka' ks.length kc'):=(hc4 w.heap.size 4 (by omega)).trans (by rw [← hw3e];exact World.cell?_setCell_same _ _ _ q4)
 have c5:=(hc4 w.heap.size 5 (by omega)).trans ((hc3 _ _ (by omega) (by omega)).trans q5)
 have d0:=(hc4 (w.heap.size+1) 0 (by omega)).trans ((hc3 _ _ (by omega) (by omega)).trans (HR.out.1 0 _ rfl))
 have d1:=(hc4 (w.heap.size+1) 1 (by omega)).trans ((hc3 _ _ (by omega) (by omega)).trans (HR.out.1 1 _ rfl))
 have d2:=(hc4 (w.heap.size+1) 2 (by omega)).trans ((hc3 _ _ (by omega) (by omega)).trans (HR.out.1 2 _ rfl))
 have d3:=(hc4 (w.heap.size+1) 3 (by omega)).trans ((hc3 _ _ (by omega) (by omega)).trans (HR.out.1 3 _ rfl))
 have d4:=(hc4 (w.heap.size+1) 4 (by omega)).trans ((hc3 _ _ (by omega) (by omega)).trans (HR.out.1 4 _ rfl))
 have d5:=(hc4 (w.heap.size+1) 5 (by omega)).trans ((hc3 _ _ (by omega) (by omega)).trans (HR.out.1 5 _ rfl))
 have e5:=(hf4 w.heap.size 5 (by omega)).trans (HR.out.2.1 5)
 have y0:=(hf4 (w.heap.size+1) 0 (by omega)).trans (HR.out.2.2 0)
 have y1:=(hf4 (w.heap.size+1) 1 (by omega)).trans (HR.out.2.2 1)
 have y2:=(hf4 (w.heap.size+1) 2 (by omega)).trans (HR.out.2.2 2)
 have y3:=(hf4 (w.heap.size+1) 3 (by omega)).trans (HR.out.2.2 3)
 have y4:=(hf4 (w.heap.size+1) 4 (by omega)).trans (HR.out.2.2 4)
 have y5:=(hf4 (w.heap.size+1) 5 (by omega)).trans (HR.out.2.2 5)
 have HLR:=Zb hlr
 have HB4:=Zb hb4
 have HBW4:Hid (Below w.heap.size w w4):=hw3.trans (hb4.mono hw3.size)
 have HS3:=Zb hs3
 have HSS:=Zb hs2'
 have HC3:=Zb hc3
 have HC4:=Zb hc4
 have HF4:=Zb hf4
 clear hlr hb4 hw3 hs3 hs2' hc3 hc4 hf4 q0 q1 q2 q3 q4 q5 f4 HR
 go_wp2_with fail
 have HFB:Hid (Below w.heap.size w (six (w4.setCell ⟨w.heap.size,5,none⟩ (.slice la' ts.length lc')) (w.heap.size+1) 0 (.int .i64 k) (.bool x) (.int .i64 n) (.string s) (.slice ka' ks.length kc') (.slice la' ts.length lc'))) :=
  Zlv (HBW4.out.setCell (p:=⟨w.heap.size,5,none⟩) (Nat.le_refl _) _) (by omega) _ _ _ _ _ _
 refine bodyPost_ret (v:=.agg #[.int .i64 k,.bool x,.int .i64 n,.string s,.slice ka' ks.length kc',.slice la' ts.length lc']) (by simp [results,Tryz.results147,go_sem,d0,d1,d2,d3,d4,d5]) rfl ⟨_,rfl,?_,HFB.out⟩
 show Zay w.heap.size (six (w4.setCell ⟨w.heap.size,5,none⟩ (.slice la' ts.length lc')) (w.heap.size+1) 0 (.int .i64 k) (.bool x) (.int .i64 n) (.string s) (.slice ka' ks.length kc') (.slice la' ts.length lc')).heap.size (six (w4.setCell ⟨w.heap.size,5,none⟩ (.slice la' ts.length lc')) (w.heap.size+1) 0 (.int .i64 k) (.bool x) (.int .i64 n) (.string s) (.slice ka' ks.length kc') (.slice la' ts.length lc')) _ _
 have hfin:∀ lo B',w.heap.size+2≤lo→Zcc lo B' w4 (six (w4.setCell ⟨w.heap.size,5,none⟩ (.slice la' ts.length lc')) (w.heap.size+1) 0 (.int .i64 k) (.bool x) (.int .i64 n) (.string s) (.slice ka' ks.length kc') (.slice la' ts.length lc')):=fun lo B' h b o h1 _=>by
  rw [Zkb (fun e=>by omega),Zdb,World.frozen?_setCell]
  exact ⟨World.cell?_setCell_other _ _ _ _ (fun e=>by simp only [Addr.mk.injEq] at e;omega),rfl⟩
 have hsz:(six (w4.setCell ⟨w.heap.size,5,none⟩ (.slice la' ts.length lc')) (w.heap.size+1) 0 (.int .i64 k) (.bool x) (.int .i64 n) (.string s) (.slice ka' ks.length kc') (.slice la' ts.length lc')).heap.size=w4.heap.size:=by rw [Zkc];simp
 rw [hsz]
 simp only [Zay]
 refine ⟨ka',kc',la',lc',rfl,⟨hs1,hk1,hk2,g1,g2⟩,?_,?_⟩
 ·have k1:Zfh (w.heap.size+2) w2.heap.size w2 ka' ks:=hWs▸HKR.out
  have k2:Zfh (w.heap.size+2) w2.heap.size w4 ka' ks:=k1.keep (fun b o h1 h2=>⟨(HC4.out b o h2).trans (HC3.out b o h2 (by omega)),HF4.out b o h2⟩)
  exact (k2.keep (hfin _ _ (Nat.le_refl _))).mono (by omega) (by have:=HB4.out.size;have:=HS3.out;omega)
 ·have l1:Zk0 w3.heap.size w4.heap.size w4 la' ts:=HLR.out
  exact (l1.keep (hfin _ _ (by have:=HS3.out;have:=HSS.out;omega))).mono (by have:=HS3.out;have:=HSS.out;omega) (Nat.le_refl _)
