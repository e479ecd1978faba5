/- Values as trees, and how a tree lies in memory. -/
import Derived.Test.YteddjlbfbpecjaaGreatDoorJoin3
import Derived.RangeFuncRecord
import Derived.Test.YteddjlbfbpecjaaGreatDoorJoin6
import Derived.Test.YteddjlbfbpecjaaGreatDoorJoin5
import Derived.Sort.OwnSorted
namespace Go.Proofs.YteddjlbfbpecjaaGreatDoor
section
open Go.RowKit
set_option linter.all false
inductive Zk  where
 | mk (k:Int) (b:Bool) (n:Int) (s:ByteArray) (ks:List ByteArray) (ts:List Zk)
theorem Zk.ind {p:Zk→Prop} (h:∀ k b n s ks ts,(∀ t ∈ ts,p t)→p (.mk k b n s ks ts)):∀ T,p T
 | .mk k b n s ks ts=>h k b n s ks ts fun t ht=>Zk.ind h t
termination_by T=>SizeOf.sizeOf T
decreasing_by
 have:=List.sizeOf_lt_of_mem ht
 simp
 omega
def Zk.kind  : Zk→Int | .mk k _ _ _ _ _=>k
def Zk.text  : Zk→ByteArray | .mk _ _ _ s _ _=>s
def Zk.keys  : Zk→List ByteArray | .mk _ _ _ _ ks _=>ks
def Zk.kids  : Zk→List Zk | .mk _ _ _ _ _ ts=>ts
def Jv (B:Nat) (w:World) (ad:Option Addr) (ks:List ByteArray):Prop :=
 ks=[]∨∃ b off,ad=some ⟨b,off,none⟩∧b<B∧∀ i,i<ks.length→w.cell? ⟨b,off+i,none⟩=some (.string (ks.getD i ⟨#[]⟩))∧(ks.getD i ⟨#[]⟩).size≤maxLen
mutual
def Zaw (B:Nat) (w:World):Value→Zk→Prop
 | v,.mk k b n s ks ts=>∃ ka kc la lc,v=.agg #[.int .i64 k,.bool b,.int .i64 n,.string s,.slice ka ks.length kc,.slice la ts.length lc] ∧
   (s.size≤maxLen∧ks.length≤kc∧kc≤maxLen∧ts.length≤lc∧lc≤maxLen)∧Jv B w ka ks∧(ts=[]∨∃ bl off,la=some ⟨bl,off,none⟩∧bl<B∧KidsLie B w bl off ts)
def KidsLie (B:Nat) (w:World) (bl:Nat):Nat→List Zk→Prop
 | _,[]=>True
 | off,t::ts=>(∃ v0 v1 v2 v3 v4 v5,(w.cell? ⟨bl,off,none⟩=some v0∧w.cell? ⟨bl,off+1,none⟩=some v1∧w.cell? ⟨bl,off+2,none⟩=some v2∧w.cell? ⟨bl,off+3,none⟩=some v3 ∧
   w.cell? ⟨bl,off+4,none⟩=some v4∧w.cell? ⟨bl,off+5,none⟩=some v5)∧Zaw B w (.agg #[v0,v1,v2,v3,v4,v5]) t)∧KidsLie B w bl (off+6) ts
end
mutual
theorem Zaw.below {B:Nat} {w w':World} (h:Below B w w'):∀ {v:Value} {T:Zk},Zaw B w v T→Zaw B w' v T
 | v,.mk k b n s ks ts,hl=>by
  simp only [Zaw] at hl ⊢
  obtain ⟨ka,kc,la,lc,hv,hb,hk,ht⟩:=hl
  refine ⟨ka,kc,la,lc,hv,hb,?_,?_⟩
  ·rcases hk with hk | ⟨bk,off,e,hlt,hc⟩
   ·exact .inl hk
   ·exact .inr ⟨bk,off,e,hlt,fun i hi=>⟨(h.cell (p:=⟨bk,off+i,none⟩) hlt).trans (hc i hi).1,(hc i hi).2⟩⟩
  ·rcases ht with ht | ⟨bl,off,e,hlt,hc⟩
   ·exact .inl ht
   ·exact .inr ⟨bl,off,e,hlt,KidsLie.below h hlt hc⟩
theorem KidsLie.below {B:Nat} {w w':World} (h:Below B w w') {bl:Nat} (hlt:bl<B):∀ {off:Nat} {ts:List Zk},KidsLie B w bl off ts→KidsLie B w' bl off ts
 | off,[],hl=>by simp only [KidsLie]
 | off,t::ts,hl=>by
  simp only [KidsLie] at hl ⊢
  obtain ⟨⟨v0,v1,v2,v3,v4,v5,⟨c0,c1,c2,c3,c4,c5⟩,hv⟩,hr⟩:=hl
  exact ⟨⟨v0,v1,v2,v3,v4,v5,⟨(h.cell (p:=⟨bl,off,none⟩) hlt).trans c0,(h.cell (p:=⟨bl,off+1,none⟩) hlt).trans c1,(h.cell (p:=⟨bl,off+2,none⟩) hlt).trans c2,(h.cell (p:=⟨bl,off+3,none⟩) hlt).trans c3,
   (h.cell (p:=⟨bl,off+4,none⟩) hlt).trans c4,(h.cell (p:=⟨bl,off+5,none⟩) hlt).trans c5⟩,Zaw.below h hv⟩,KidsLie.below h hlt hr⟩
end
mutual
theorem Zaw.mono {B B':Nat} {w:World} (h:B≤B'):∀ {v:Value} {T:Zk},Zaw B w v T→Zaw B' w v T
 | v,.mk k b n s ks ts,hl=>by
  simp only [Zaw] at hl ⊢
  obtain ⟨ka,kc,la,lc,hv,hb,hk,ht⟩:=hl
  refine ⟨ka,kc,la,lc,hv,hb,?_,?_⟩
  ·rcases hk with hk | ⟨bk,off,e,hlt,hc⟩
   ·exact .inl hk
   ·exact .inr ⟨bk,off,e,Nat.lt_of_lt_of_le hlt h,hc⟩
  ·rcases ht with ht | ⟨bl,off,e,hlt,hc⟩
   ·exact .inl ht
   ·exact .inr ⟨bl,off,e,Nat.lt_of_lt_of_le hlt h,KidsLie.mono h hc⟩
theorem KidsLie.mono {B B':Nat} {w:World} (h:B≤B') {bl:Nat}:∀ {off:Nat} {ts:List Zk},KidsLie B w bl off ts→KidsLie B' w bl off ts
 | off,[],hl=>by simp only [KidsLie]
 | off,t::ts,hl=>by
  simp only [KidsLie] at hl ⊢
  obtain ⟨⟨v0,v1,v2,v3,v4,v5,hc,hv⟩,hr⟩:=hl
  exact ⟨⟨v0,v1,v2,v3,v4,v5,hc,Zaw.mono h hv⟩,KidsLie.mono h hr⟩
end
theorem KidsLie.at {B:Nat} {w:World} {bl:Nat}:∀ {ts:List Zk} {off:Nat},KidsLie B w bl off ts→∀ {i:Nat} {t:Zk},ts[i]?=some t →
  ∃ v0 v1 v2 v3 v4 v5,(w.cell? ⟨bl,off+i*6,none⟩=some v0∧w.cell? ⟨bl,off+i*6+1,none⟩=some v1∧w.cell? ⟨bl,off+i*6+2,none⟩=some v2∧w.cell? ⟨bl,off+i*6+3,none⟩=some v3 ∧
   w.cell? ⟨bl,off+i*6+4,none⟩=some v4∧w.cell? ⟨bl,off+i*6+5,none⟩=some v5)∧Zaw B w (.agg #[v0,v1,v2,v3,v4,v5]) t
 | [],off,_,i,t,h=>by simp at h
 | t::ts,off,hl,0,u,h=>by
  simp only [KidsLie] at hl
  simp at h;subst h
  simpa using hl.1
 | t::ts,off,hl,i+1,u,h=>by
  simp only [KidsLie] at hl
  have:=KidsLie.at hl.2 (i:=i) (t:=u) (by simpa using h)
  rw [show off+6+i*6=off+(i+1)*6 from by omega] at this
  exact this
theorem KidsLie.cells {B:Nat} {w:World} {bl:Nat} {ts:List Zk} {off:Nat} (h:KidsLie B w bl off ts) {i:Nat} {k:Int} {b:Bool} {n:Int} {s:ByteArray} {ks:List ByteArray} {us:List Zk} (ht:ts[i]?=some (.mk k b n s ks us)) :
  ∃ ka kc la lc,(w.cell? ⟨bl,off+i*6,none⟩=some (.int .i64 k)∧w.cell? ⟨bl,off+i*6+1,none⟩=some (.bool b)∧w.cell? ⟨bl,off+i*6+2,none⟩=some (.int .i64 n)∧w.cell? ⟨bl,off+i*6+3,none⟩=some (.string s) ∧
   w.cell? ⟨bl,off+i*6+4,none⟩=some (.slice ka ks.length kc)∧w.cell? ⟨bl,off+i*6+5,none⟩=some (.slice la us.length lc)) ∧
   Zaw B w (.agg #[.int .i64 k,.bool b,.int .i64 n,.string s,.slice ka ks.length kc,.slice la us.length lc]) (.mk k b n s ks us):=by
 obtain ⟨v0,v1,v2,v3,v4,v5,⟨c0,c1,c2,c3,c4,c5⟩,hl⟩:=h.at ht
 have hl':=hl
 simp only [Zaw] at hl
 obtain ⟨ka,kc,la,lc,e,_⟩:=hl
 simp only [Value.agg.injEq,Array.mk.injEq,List.cons.injEq,and_true] at e
 obtain ⟨rfl,rfl,rfl,rfl,rfl,rfl⟩:=e
 exact ⟨ka,kc,la,lc,⟨c0,c1,c2,c3,c4,c5⟩,hl'⟩
mutual
def Zk.pre (d:Int):Zk→List (Int × Zk)
 | .mk k b n s ks ts=>(d,.mk k b n s ks ts)::Zk.preL (d+1) ts
def Zk.preL (d:Int):List Zk→List (Int × Zk)
 | []=>[]
 | t::ts=>t.pre d++Zk.preL d ts
end
mutual
def Zk.height  : Zk→Nat
 | .mk _ _ _ _ _ ts=>Zk.heightL ts+1
def Zk.heightL  : List Zk→Nat
 | []=>0
 | t::ts=>max t.height (Zk.heightL ts)
end
theorem Zk.height_mem  : ∀ {ts:List Zk} {t:Zk},t ∈ ts→t.height≤Zk.heightL ts
 | [],_,h=>by simp at h
 | u::us,t,h=>by
  simp only [Zk.heightL]
  rcases List.mem_cons.1 h with rfl | h
  ·omega
  ·have:=Zk.height_mem h;omega
theorem Zk.preL_append (d:Int):∀ a b:List Zk,Zk.preL d (a++b)=Zk.preL d a++Zk.preL d b
 | [],b=>by simp [Zk.preL]
 | t::a,b=>by simp [Zk.preL,Zk.preL_append d a b]
theorem Zk.preL_take (d:Int) (ts:List Zk) (i:Nat) (t:Zk) (h:ts[i]?=some t):Zk.preL d (ts.take (i+1))=Zk.preL d (ts.take i)++t.pre d:=by
 rw [List.take_add_one,h,Zk.preL_append]
 simp [Zk.preL]
end
section
open Go.RowKit Go.Shelf
set_option linter.all false
attribute [local go_sem] Oper.semAt_some
structure Zpb (F:Fence) (l B C:Nat) (w0:World) (L:List (Int × Zk)) (J:List (Int × Zk)→World→Prop) (Jx:World→Prop) (Jp:List PanicEntry→World→Prop):Prop where
 old:∀ pre W,J pre W→Below B w0 W∧B≤W.heap.size∧C≤W.heap.size
 more:∀ pre W W',J pre W→Below W.heap.size W W'→J pre W'
 round:∀ m pre d t v W,J pre W→Zaw B w0 v t→pre++[(d,t)] <+: L→YieldAt F m Tryz.prog l #[.int .i64 d,v] W fun e W' =>
  (e=.returned (.bool true)∧J (pre++[(d,t)]) W'∧Zci C W W')∨(e=.returned (.bool false)∧Jx W')∨(∃ ch,e=.panicked ch∧Jp ch W')
set_option maxRecDepth 100000 in
set_option maxHeartbeats 1000000 in
theorem Zw8 {F:Fence} (hd:F.depth=none) (h58:F.fn 237) (hro:F.round=none) {l B C:Nat} {w0:World} {L:List (Int × Zk)} {J:List (Int × Zk)→World→Prop} {Jx:World→Prop} {Jp:List PanicEntry→World→Prop}
  (R:Zpb F l B C w0 L J Jx Jp):∀ (T:Zk) (n:Nat) (d:Int) (v:Value) (pre:List (Int × Zk)) (W:World),Zaw B w0 v T→J pre W→0≤d→d+T.height≤1000000000→pre++T.pre d <+: L →
  CallsIn F n Tryz.prog 237 #[.int .i64 d,v,.func (.yield l) #[] #[]] W fun e W' =>
   (e=.returned (.bool true)∧J (pre++T.pre d) W'∧Zci C W W')∨(e=.returned (.bool false)∧Jx W')∨(∃ ch,e=.panicked ch∧Jp ch W'):=by
 refine Zk.ind ?_
 intro k b n s ks ts ih m d v pre W hv hJ hd1 hd2 hL
 simp only [Zk.pre] at hL
 have HL:Hid (pre++[(d,.mk k b n s ks ts)]++Zk.preL (d+1) ts <+: L):=by simpa [Hid] using hL
 clear hL
 have hdd:=Zeq hd
 have hv0:=hv
 simp only [Zaw] at hv
 obtain ⟨ka,kc,la,lc,rfl,⟨hs1,hs2,hs3,hs4,hs5⟩,hk,ht⟩:=hv
 unfold maxLen at hs1 hs3 hs5
 have ho:=R.old pre W hJ
 have hy:=R.round (m - 1) pre d (.mk k b n s ks ts) _ (W.alloc (.cells #[.int .i64 k,.bool b,.int .i64 n,.string s,.slice ka ks.length kc,.slice la ts.length lc] 60)) (R.more _ _ _ hJ ((Below.refl _ _).alloc (Nat.le_refl _) _)) hv0 ((List.prefix_append _ _).trans HL.out)
 obtain ⟨fn,tmps,assign,body,hy1,hR⟩:=hy
 refine callsIn_of_wp Tryz.func237 rfl h58 ?_ hro
 simp only [Tryz.ntmps237,List.size_toArray,List.length_cons,List.length_nil,Nat.reduceAdd,Nat.reduceSub,Array.replicate_succ,Array.replicate_zero,List.push_toArray,List.append_toArray,List.nil_append,List.cons_append]
 gi_wp2_with fail
 refine hR.mono ?_
 clear hR hy1
 have hC:C≤W.heap.size:=ho.2.2
 rintro e W2 (⟨rfl,hJ2,ha2⟩ | ⟨rfl,hx2⟩ | ⟨ch,rfl,hp⟩)
 ·have c5:W2.cell? ⟨W.heap.size,5,none⟩=some (.slice la ts.length lc):=(ha2.cell (p:=⟨W.heap.size,5,none⟩) hC (by simp)).trans (Zaf _ _ _ _ _ rfl)
  have HA:Hid (Zci C W W2):=(((Zci.refl C W).alloc _).trans ha2:Zci C W W2)
  clear ha2 ho hv0 hk hJ
  gi_wp2_with fail
  gi_loopw [17] (fun i wr=>∃ j:Nat,j≤ts.length∧i=.int .i64 j∧J (pre++[(d,.mk k b n s ks ts)]++Zk.preL (d+1) (ts.take j)) wr∧Zci C W wr) (fun i _=>ts.length - (intOf i).toNat)
  case atStart=>exact ⟨0,Nat.zero_le _,rfl,by simpa [Zk.preL] using hJ2,HA.out⟩
  case round =>
   obtain ⟨j,hj,rfl,hJr,har⟩:=hrel
   by_cases hlt:j<ts.length
   ·obtain ⟨⟨k',b',n',s',ks',us⟩,hti⟩:∃ t,ts[j]?=some t:=⟨_,List.getElem?_eq_getElem hlt⟩
    have hmem:Zk.mk k' b' n' s' ks' us ∈ ts:=List.mem_of_getElem? hti
    obtain ⟨bl,off,rfl,hbl,hkids⟩:=ht.resolve_left (by intro e;subst e;simp at hlt)
    obtain ⟨ka',kc',la',lc',⟨c0,c1,c2,c3,c4,c6⟩,hlv⟩:=hkids.cells hti
    have hold:=(R.old _ _ hJr).1
    replace c0:=(hold.cell (p:=⟨bl,off+j*6,none⟩) hbl).trans c0
    replace c1:=(hold.cell (p:=⟨bl,off+j*6+1,none⟩) hbl).trans c1
    replace c2:=(hold.cell (p:=⟨bl,off+j*6+2,none⟩) hbl).trans c2
    replace c3:=(hold.cell (p:=⟨bl,off+j*6+3,none⟩) hbl).trans c3
    replace c4:=(hold.cell (p:=⟨bl,off+j*6+4,none⟩) hbl).trans c4
    replace c6:=(hold.cell (p:=⟨bl,off+j*6+5,none⟩) hbl).trans c6
    have Hti:Hid (ts[j]?=some (Zk.mk k' b' n' s' ks' us)):=hti
    have HJ:Hid (J (pre++[(d,.mk k b n s ks ts)]++Zk.preL (d+1) (ts.take j)) wr):=hJr
    clear hti hold hkids hJr ht c5 hJ2
    have hh:=Zk.height_mem hmem
    have HLt:Hid (pre++[(d,.mk k b n s ks ts)]++Zk.preL (d+1) (ts.take j)++(Zk.mk k' b' n' s' ks' us).pre (d+1) <+: pre++[(d,.mk k b n s ks ts)]++Zk.preL (d+1) ts):=by
     have e:=Zk.preL_take (d+1) ts j _ Hti.out
     have e2:Zk.preL (d+1) ts=Zk.preL (d+1) (ts.take (j+1))++Zk.preL (d+1) (ts.drop (j+1)):=by rw [← Zk.preL_append,List.take_append_drop]
     rw [e2,e]
     exact ⟨Zk.preL (d+1) (ts.drop (j+1)),by simp [List.append_assoc]⟩
    simp only [Zk.height] at hd2 hh
    gi_wp2_with fail
    refine (ih _ hmem (m - 1) (d+1) _ _ _ hlv (R.more _ _ _ HJ.out ((Below.refl _ _).alloc (Nat.le_refl _) _)) (by omega) (by simp only [Zk.height];omega) (HLt.out.trans HL.out)).mono ?_
    rintro e W3 (⟨rfl,hJ3,ha3⟩ | ⟨rfl,hx3⟩ | ⟨ch,rfl,hp3⟩)
    ·have HJ3:Hid (J (pre++[(d,.mk k b n s ks ts)]++Zk.preL (d+1) (ts.take (j+1))) W3):=by
      rw [Zk.preL_take _ _ _ _ Hti.out,← List.append_assoc];exact hJ3
     have HA3:Hid (Zci C W W3):=har.trans (((Zci.refl C wr).alloc _).trans ha3)
     clear hJ3 ha3
     gi_wp2_with fail
     go_roundw
     case rel=>exact ⟨j+1,by omega,by go_num,HJ3.out,HA3.out⟩
     case measure=>simp [intOf];omega
    ·gi_wp2_with fail
     go_ret
     exact .inr (.inl ⟨rfl,hx3⟩)
    ·exact ⟨rfl,.inr (.inr ⟨ch,rfl,hp3⟩)⟩
   ·gi_wp2_with fail
    go_ret
    refine .inl ⟨rfl,?_,har⟩
    rw [List.take_of_length_le (by omega)] at hJr
    simpa [Zk.pre] using hJr
 ·gi_wp2_with fail
  go_ret
  exact .inr (.inl ⟨rfl,hx2⟩)
 ·exact ⟨rfl,.inr (.inr ⟨ch,rfl,hp⟩)⟩
theorem Zh2 {F:Fence} (hd:F.depth=none) (h57:F.fn 236) (h58:F.fn 237) (hro:F.round=none) {l B C:Nat} {w0:World} {J:List (Int × Zk)→World→Prop} {Jx:World→Prop} {Jp:List PanicEntry→World→Prop}
  {k:Int} {b:Bool} {n:Int} {s:ByteArray} {ks:List ByteArray} {ts:List Zk} {ka:Option Addr} {kc:Nat} {la:Option Addr} {lc:Nat}
  (R:Zpb F l B C w0 ((Zk.mk k b n s ks ts).pre 1) J Jx Jp) (m bx:Nat) (W:World) (hv:Zaw B w0 (.agg #[.int .i64 k,.bool b,.int .i64 n,.string s,.slice ka ks.length kc,.slice la ts.length lc]) (.mk k b n s ks ts))
  (hJ:J [] W) (hh:Zk.heightL ts<100000000)
  (c0:W.cell? ⟨bx,0,none⟩=some (.int .i64 k)) (c1:W.cell? ⟨bx,1,none⟩=some (.bool b)) (c2:W.cell? ⟨bx,2,none⟩=some (.int .i64 n)) (c3:W.cell? ⟨bx,3,none⟩=some (.string s))
  (c4:W.cell? ⟨bx,4,none⟩=some (.slice ka ks.length kc)) (c5:W.cell? ⟨bx,5,none⟩=some (.slice la ts.length lc)) :
  CallsIn F m Tryz.prog 236 #[.func (.yield l) #[] #[],.pointer (some ⟨bx,0,none⟩)] W fun e W' =>
   ((∃ x,e=.returned x)∧(J ((Zk.mk k b n s ks ts).pre 1) W'∨Jx W'))∨(∃ ch,e=.panicked ch∧Jp ch W'):=by
 have hw:=Zw8 hd h58 hro R (.mk k b n s ks ts) (m - 1) 1 _ [] W hv hJ (by omega) (by simp only [Zk.height];omega) (List.prefix_refl _)
 refine callsIn_of_wp Tryz.func236 rfl h57 ?_ hro
 simp only [Tryz.ntmps236,List.size_toArray,List.length_cons,List.length_nil,Nat.reduceAdd,Nat.reduceSub,Array.replicate_succ,Array.replicate_zero,List.push_toArray,List.append_toArray,List.nil_append,List.cons_append]
 gi_wp2_with fail
 refine hw.mono ?_
 rintro e W3 (⟨rfl,hJ3,ha3⟩ | ⟨rfl,hx3⟩ | ⟨ch,rfl,hp3⟩)
 ·clear hw
  gi_wp2_with fail
  go_end0
  exact .inl ⟨⟨_,rfl⟩,.inl (by simpa using hJ3)⟩
 ·clear hw
  gi_wp2_with fail
  go_end0
  exact .inl ⟨⟨_,rfl⟩,.inr hx3⟩
 ·exact ⟨rfl,.inr ⟨ch,rfl,hp3⟩⟩
theorem Zjf {F:Fence} (h45:F.fn 204) (hro:F.round=none) (m:Nat) (k:Int) (b:Bool) (n:Int) (s:ByteArray) (ka:Option Addr) (kl kc:Nat) (la:Option Addr) (ll lc:Nat) (w:World) :
  CallsIn F m Tryz.prog 204 #[.agg #[.int .i64 k,.bool b,.int .i64 n,.string s,.slice ka kl kc,.slice la ll lc]] w fun e w' =>
   e=.returned (.func (.func 236) #[] #[.pointer (some ⟨w.heap.size,0,none⟩)])∧w'=w.alloc (.cells #[.int .i64 k,.bool b,.int .i64 n,.string s,.slice ka kl kc,.slice la ll lc] 60):=by
 refine callsIn_of_wp Tryz.func204 rfl h45 ?_ hro
 simp only [Tryz.ntmps204,List.size_toArray,List.length_cons,List.length_nil,Nat.reduceAdd,Nat.reduceSub,Array.replicate_succ,Array.replicate_zero,List.push_toArray,List.append_toArray,List.nil_append,List.cons_append]
 gi_wp2
 go_ret
 exact ⟨rfl,rfl⟩
end
section
open Go.RowKit Go.Shelf
set_option maxHeartbeats 2000000
set_option maxRecDepth 100000
set_option linter.all false
attribute [local go_sem] Oper.semAt_some
def Zby (n:Nat) (W:World) (a:Option Addr) (ks:List ByteArray):Prop:=∀ i x,ks[i]?=some x→∃ b off,a=some ⟨b,off,none⟩∧b<n∧W.cell? ⟨b,off+i,none⟩=some (.string x)
theorem Zby.below {n:Nat} {W W':World} {a:Option Addr} {ks:List ByteArray} (h:Zby n W a ks) (hb:Below n W W'):Zby n W' a ks:=fun i x hx=>by
 obtain ⟨b,off,e,hl,hc⟩:=h i x hx
 exact ⟨b,off,e,hl,(hb.cell (p:=⟨b,off+i,none⟩) hl).trans hc⟩
theorem Zby.mono {n m:Nat} {W:World} {a:Option Addr} {ks:List ByteArray} (h:Zby n W a ks) (hm:n≤m):Zby m W a ks:=fun i x hx=>by
 obtain ⟨b,off,e,hl,hc⟩:=h i x hx
 exact ⟨b,off,e,by omega,hc⟩
theorem Zgz {α:Type} {ks:List α} {j:Nat} {x:α} (h:ks[j]?=some x):ks.take j++[x] <+: ks:=by
 have e:ks.take j++[x]=ks.take (j+1):=by
  rw [List.take_add_one,h];rfl
 rw [e];exact List.take_prefix _ _
theorem Zqf {α:Type} {ks:List α} {j:Nat} {x:α} (h:ks[j]?=some x):ks.take j++[x]=ks.take (j+1):=by
 rw [List.take_add_one,h];rfl
theorem Zlk {F:Fence} (hd:F.depth=none) (hro:F.round=none) (hfn:∀ f,F.fn f) {l n₀:Nat} (ks:List ByteArray) (hks:ks.length≤1000000000) (a:Option Addr) (cap Bs:Nat) (J:List ByteArray→World→Prop)
  (hY:∀ m pre x W,J pre W→pre++[x] <+: ks→YieldAt F m Tryz.prog l #[.string x] W fun e W'=>e=.returned (.bool true)∧J (pre++[x]) W'∧Below n₀ W W')
  (W:World) (hBs:W.cell? ⟨Bs,0,none⟩=some (.slice a ks.length cap)) (hcap:ks.length≤cap) (hat:Zby n₀ W a ks) (h0:J [] W) (m:Nat) :
  CallsIn F m Tryz.prog 176 #[.func (.yield l) #[] #[],.pointer (some ⟨Bs,0,none⟩)] W fun e W'=>(∃ v,e=.returned v)∧J ks W':=by
 have hdd:=Zeq hd
 have HT:=Zb hat
 have HY:=Zb hY
 obtain ⟨n,hn⟩:∃ n,ks.length=n:=⟨_,rfl⟩
 have HN:=Zb hn
 rw [hn] at hBs hcap hks
 clear hat hY hn
 refine callsIn_of_wp Tryz.func176 rfl (hfn _) ?_ hro
 simp only [Tryz.ntmps176,List.size_toArray,List.length_cons,List.length_nil,Nat.reduceAdd,Nat.reduceSub,Array.replicate_succ,Array.replicate_zero,List.push_toArray,List.append_toArray,List.nil_append,List.cons_append]
 gi_wp2_with fail
 gi_loopw [7] (fun i wr=>∃ j:Nat,j≤n∧i=.int .i64 j∧J (ks.take j) wr∧Below n₀ W wr) (fun i _=>n - (intOf i).toNat)
 case atStart=>exact ⟨0,Nat.zero_le _,rfl,by simpa using h0,Below.refl _ _⟩
 case round =>
  obtain ⟨j,hj,rfl,hJr,hbr⟩:=hrel
  by_cases hlt:j<n
  ·obtain ⟨x,hx⟩:∃ x,ks[j]?=some x:=⟨_,List.getElem?_eq_getElem (by have:=HN.out;omega)⟩
   obtain ⟨b,off,rfl,hbl,hc⟩:=HT.out j x hx
   have c0:=(hbr.cell (p:=⟨b,off+j,none⟩) hbl).trans hc
   obtain ⟨fn,tmps,assign,body,hy1,hR⟩:=HY.out (m - 1) (ks.take j) x wr hJr (Zgz hx)
   have HX:=Zb hx
   have HBR:=Zb hbr
   clear hx hc hJr hbr hBs h0
   gi_wp2_with fail
   refine hR.mono ?_
   clear hR hy1
   rintro e W3 ⟨rfl,hJ3,hb3⟩
   rw [Zqf HX.out] at hJ3
   have HB3:=Zb (HBR.out.trans hb3)
   have HJ3:=Zb hJ3
   clear hb3 hJ3 c0
   gi_wp2_with fail
   go_roundw
   case rel=>exact ⟨j+1,by omega,by go_num,HJ3.out,HB3.out⟩
   case measure=>simp [intOf];omega
  ·have hJe:J ks wr:=by rwa [List.take_of_length_le (by have:=HN.out;omega)] at hJr
   have HJ:=Zb hJe
   clear hJr hJe hBs h0
   gi_wp2_with fail
   go_end0
   exact ⟨⟨_,rfl⟩,HJ.out⟩
structure ApJ (w:World) (rec:Loop) (pre:List ByteArray) (W:World):Prop where
 room:w.heap.size+3≤W.heap.size
 loop:W.heap[w.heap.size+2]?=some (.loop rec)
 dfr:W.heap[w.heap.size+1]?=some (.deferred (some []))
 box:∃ v,Boxed W w.heap.size 44 v∧W.ownsRow (w.heap.size+3) 9 1 v pre.length (pre.map Value.string)
 below:Below w.heap.size w W
theorem Zw {W:World} {base e size n:Nat} {v:Value} {xs:List Value} (h:W.ownsRow base e size v n xs):∃ ua uc,v=.slice ua n uc:=by
 obtain ⟨_,⟨h1,h2⟩ | ⟨g,cap,cur,h1,_⟩⟩:=h
 ·subst h2;exact ⟨none,0,h1⟩
 ·exact ⟨_,_,h1⟩
theorem Zt {base e size n:Nat} {xs:List Value} {v:Value} {w w1:World} (hown:w.ownsRow base e size v n xs) (hb:∀ g,base≤g→g<w.heap.size→w1.heap[g]?=w.heap[g]?):w1.ownsRow base e size v n xs:=by
 obtain ⟨g1,⟨g2,g3⟩ | ⟨g,cap,cur,g2,g3,g4,g5⟩⟩:=hown
 ·exact ⟨g1,.inl ⟨g2,g3⟩⟩
 ·exact ⟨g1,.inr ⟨g,cap,cur,g2,g3,(hb g g3 (Array.getElem?_eq_some_iff.1 g4).1).trans g4,g5⟩⟩
theorem Zfr {base e size n:Nat} {v:Value} {xs:List Value} {w w':World} (hown:w.ownsRow base e size v n xs) (hB:base≤w.heap.size) (hg:w.grownBy w' v.ownBlock):Below base w w' :=
 (Below.refl base w).grown hg hB fun q h=>(hown.lt q h).1
theorem Zg5 {base base' e size n:Nat} {v:Value} {xs:List Value} {w:World} (hown:w.ownsRow base e size v n xs) (hb:base'≤base):w.ownsRow base' e size v n xs:=by
 obtain ⟨g1,⟨g2,g3⟩ | ⟨g,cap,cur,g2,g3,g4,g5⟩⟩:=hown
 ·exact ⟨g1,.inl ⟨g2,g3⟩⟩
 ·exact ⟨g1,.inr ⟨g,cap,cur,g2,by omega,g4,g5⟩⟩
theorem Tryz.info9  : (Tryz.prog.info? 9).map (fun i=>(i.zero,i.size,i.bytes))=some (some (.string ⟨#[]⟩),1,16):=by kernel_rfl
theorem Ziw (ks:List ByteArray) (hks:ks.length≤100000000) (a:Option Addr) (cap Bs:Nat) (w:World) (hBs:Boxed w Bs 44 (.slice a ks.length cap)) (hcap:ks.length≤cap) (hat:Zby w.heap.size w a ks) :
  Calls Tryz.prog 217 #[.slice none 0 0,.func (.func 176) #[] #[.pointer (some ⟨Bs,0,none⟩)]] w fun e w'=>∃ v,e=.returned v∧w'.ownsRow w.heap.size 9 1 v ks.length (ks.map Value.string)∧Below w.heap.size w w':=by
 refine (callsIn_wide (n:=0)).1 ?_
 obtain ⟨F,hF⟩:∃ F,F=Fence.wide:=⟨_,rfl⟩
 rw [← hF]
 have hd:F.depth=none:=by rw [hF];rfl
 have hro:F.round=none:=by rw [hF];rfl
 have hfn:∀ f,F.fn f:=by rw [hF];exact fun _=>trivial
 clear hF
 have HT:=Zb hat
 have HBS:=Zb hBs
 have hBl:=hBs.lt
 clear hat hBs
 refine callsIn_of_wp_marks Tryz.func217 rfl (hfn _) ?_ hro
 simp only [Tryz.ntmps217,List.size_toArray,List.length_cons,List.length_nil,Nat.reduceAdd,Nat.reduceSub,Array.replicate_succ,Array.replicate_zero,List.push_toArray,List.append_toArray,List.nil_append,List.cons_append]
 gi_wp2_with fail
 refine Zkq hro hd (gf:=176) (lb:=#[.pointer (some ⟨Bs,0,none⟩)]) rfl (hfn _) (enters_of Tryz.func176 (by kernel_rfl) rfl) ?_
 intro fn hfn0
 generalize hrec:Loop.mk _ _ _ _ _ _ _ _=rec
 simp only [World.size_alloc]
 generalize hW0:World.alloc _ (Obj.loop rec)=W0
 have hsz:W0.heap.size=w.heap.size+3:=by rw [← hW0];simp
 have b0:W0.heap[w.heap.size]?=some (.cells #[.slice none 0 0] 44 (0,0)):=by rw [← hW0];simp only [Jr,World.size_alloc];repeat (first | rw [if_pos trivial] | rw [if_pos (by omega)] | rw [if_neg (by omega)])
 have b1:W0.heap[w.heap.size+1]?=some (.deferred (some [])):=by rw [← hW0];simp only [Jr,World.size_alloc];repeat (first | rw [if_pos trivial] | rw [if_pos (by omega)] | rw [if_neg (by omega)])
 have b2:W0.heap[w.heap.size+2]?=some (.loop rec):=by rw [← hW0];simp only [Jr,World.size_alloc];repeat (first | rw [if_pos trivial] | rw [if_pos (by omega)] | rw [if_neg (by omega)])
 have hbl:Below w.heap.size w W0:=by
  rw [← hW0]
  exact (((Below.refl _ _).alloc (Nat.le_refl _) _).alloc (by simp) _).alloc (by simp;omega) _
 have HJ0:Hid (ApJ w rec [] W0):=⟨by omega,b2,b1,⟨_,b0,World.ownsRow_nil _ _ _ _⟩,hbl⟩
 have hBx:Boxed W0 Bs 44 (.slice a ks.length cap):=(hbl.block Bs hBl).trans HBS.out
 have HBX0:=Zb hBx
 have HT0:=Zb (HT.out.below hbl)
 clear hW0 b0 b1 b2 hbl hBx HT HBS
 have HYI:Hid (∀ m pre x W,ApJ w rec pre W→pre++[x] <+: ks→YieldAt F m Tryz.prog (w.heap.size+2) #[.string x] W fun e W'=>e=.returned (.bool true)∧ApJ w rec (pre++[x]) W'∧Below w.heap.size W W'):=by
  intro m pre x W hJ hpre
  have hpl:pre.length+1≤ks.length:=by have:=hpre.length_le;simpa using this
  have HJ:=Zb hJ
  have ea:=congrArg Loop.assign hrec
  have eb:=congrArg Loop.body hrec
  have et:=congrArg Loop.tmps hrec
  have ep:=congrArg Loop.params hrec
  have es:=congrArg Loop.state hrec
  have hr0:Zkp rec=rec:=by rw [← hrec];rfl
  dsimp only at ea eb et ep es
  clear hrec
  refine Zfd (hfn _) ea eb et ep hJ.loop es.symm (by rw [← ep];rfl) ?_
  clear ea eb et ep es hJ
  obtain ⟨i0,hi,hz0,hz1,hz2⟩:=info_parts Tryz.info9
  obtain ⟨v,hbx,hrow⟩:=HJ.out.box
  obtain ⟨ua,uc,rfl⟩:=Zw hrow
  have hrm:=HJ.out.room
  have HBX:=Zb hbx
  have HROW:=Zb hrow
  clear hbx hrow
  gi_wp2_with fail
  refine ⟨HJ.out.loop,?_⟩
  generalize hW2:World.putObj _ _ _=W2
  have a2:W2.heap[w.heap.size+2]?=some (.loop (Zd6 rec)):=by rw [← hW2];exact World.putObj_heap_same (by omega)
  have ak:∀ i,i≠w.heap.size+2→W2.heap[i]?=W.heap[i]?:=fun i hi=>by rw [← hW2];exact World.putObj_heap_other hi
  have hs2:w.heap.size+3≤W2.heap.size:=by rw [← hW2];simp;omega
  have hb2:Below w.heap.size W W2:=by rw [← hW2];exact (But.putObj _ _).below (Below.refl _ _) (by omega)
  clear hW2
  have hbx2:Boxed W2 w.heap.size 44 (.slice ua pre.length uc):=(ak _ (by omega)).trans HBX.out
  have HROW2:Hid (W2.ownsRow (w.heap.size+3) 9 1 (.slice ua pre.length uc) pre.length (pre.map Value.string)):=Zt HROW.out fun g hg _=>ak g (by omega)
  have cb:=hbx2.cell
  have HBX2:=Zb hbx2
  have HA2:=Zb a2
  have HAK:=Zb ak
  have HB2:=Zb hb2
  clear hbx2 a2 ak hb2 HROW HBX
  gi_wp2_with (gi_at_builtin;refine wpListIn_append_own _ rfl _ _ 44 rfl (w.heap.size+3) 9 i0 (.string ⟨#[]⟩) 1 16 Tryz.underlying44 hi hz0 hz1 hz2 rfl (by decide) _ _ _ rfl (Zt HROW2.out fun g _ hg=>Below.heap_alloc _ _ _ hg) ⟨W2.heap.size,0,none⟩ 1 1 [.string x] rfl rfl ?d1 ?d2 ?d3 ?d4 ?d5 ?_)
  case d1 =>
   intro j u hj
   have hadd:(⟨W2.heap.size,0,none⟩:Addr).add j=⟨W2.heap.size,j,none⟩:=by unfold Addr.add;split<;>simp_all
   rw [hadd]
   refine Zaf _ _ _ _ _ ?_
   simpa using hj
  case d2=>intro u hu;simp only [List.mem_cons,List.not_mem_nil,or_false] at hu;subst hu;rfl
  case d3=>unfold maxLen;omega
  case d4=>omega
  case d5=>first | omega | (simp;omega)
  intro v3 w3 hown3 hgrow3 _
  obtain ⟨ub,ud,rfl⟩:=Zw hown3
  have hb3:Below (w.heap.size+3) W2 w3:=((Below.refl _ W2).alloc (by omega) _).trans (Zfr (Zt HROW2.out fun g _ hg=>Below.heap_alloc _ _ _ hg) (by simp;omega) hgrow3)
  have hbx3:Boxed w3 w.heap.size 44 (.slice ua pre.length uc):=(hb3.block _ (by omega)).trans HBX2.out
  have HBX3:=Zb hbx3
  have HO3:=Zb hown3
  have HB3:=Zb hb3
  have hs3:=hb3.size
  have cb3:=hbx3.cell
  have fb3:=hbx3.frozen
  clear hown3 hgrow3 hb3 cb hbx3
  gi_wp2_with fail
  have hsl:(w3.setCell ⟨w.heap.size,0,none⟩ (.slice ub (pre.length+1) ud)).heap[w.heap.size+2]?=some (.loop (Zd6 rec)):=(Below.heap_setCell _ _ _ _ (by show w.heap.size+2≠w.heap.size;omega)).trans ((HB3.out.block _ (by omega)).trans HA2.out)
  refine ⟨hsl,rfl,⟨?_,?_,?_,⟨.slice ub (pre.length+1) ud,?_,?_⟩,?_⟩,?_⟩
  ·simp [World.setCell];omega
  ·rw [hr0];exact World.putObj_heap_same (by simp [World.setCell];omega)
  ·rw [World.putObj_heap_other (by omega)]
   exact (Below.heap_setCell _ _ _ _ (by show w.heap.size+1≠w.heap.size;omega)).trans ((HB3.out.block _ (by omega)).trans ((HAK.out _ (by omega)).trans HJ.out.dfr))
  ·show _=_
   rw [World.putObj_heap_other (by omega)]
   exact HBX3.out.set _
  ·have e:(pre++[x]).map Value.string=pre.map Value.string++[Value.string x]:=by simp
   rw [e,List.length_append]
   exact Zt HO3.out fun g hg _=>by
    rw [World.putObj_heap_other (by omega)]
    exact Below.heap_setCell _ _ _ _ (by show g≠w.heap.size;omega)
  ·exact (But.putObj _ _).below ((HJ.out.below.trans (HB2.out.trans (HB3.out.mono (by omega)))).setCell (by show w.heap.size≤w.heap.size;omega) _) (by omega)
  ·exact (But.putObj _ _).below ((HB2.out.trans (HB3.out.mono (by omega))).setCell (by show w.heap.size≤w.heap.size;omega) _) (by omega)
 have HV:=Zb (Zlk hd hro hfn (l:=w.heap.size+2) (n₀:=w.heap.size) ks (by omega) a cap Bs (ApJ w rec) HYI.out W0 HBX0.out.cell hcap HT0.out HJ0.out (0 - 1))
 clear HYI HJ0 HBX0 HT0
 refine HV.out.mono ?_
 rintro e W ⟨⟨v,rfl⟩,hJ⟩
 have hp:rec.pending=none:=by rw [← hrec]
 have hst:rec.state≠.busy:=by rw [← hrec];simp
 have HJ:=Zb hJ
 clear hrec hJ HV
 refine ⟨rec,HJ.out.loop,hst,?_⟩
 simp only [hp]
 generalize hW5:World.putObj _ _ _=W5
 have hrm:=HJ.out.room
 have HK5:Hid (∀ i,i≠w.heap.size+2→W5.heap[i]?=W.heap[i]?):=fun i hi=>by rw [← hW5];exact World.putObj_heap_other hi
 have HB5:Hid (Below w.heap.size w W5):=by rw [← hW5];exact (But.putObj _ _).below HJ.out.below (by omega)
 have hs5:W5.heap.size=W.heap.size:=by rw [← hW5];simp
 clear hW5
 obtain ⟨v5,hbx,hrow⟩:=HJ.out.box
 have cb:=(show Boxed W5 w.heap.size 44 v5 from (HK5.out _ (by omega)).trans hbx).cell
 have HD5:Hid (W5.heap[w.heap.size+1]?=some (.deferred (some []))):=(HK5.out _ (by omega)).trans HJ.out.dfr
 have HR5:Hid (W5.ownsRow (w.heap.size+3) 9 1 v5 ks.length (ks.map Value.string)):=Zt hrow fun g hg _=>HK5.out g (by omega)
 clear hbx hrow
 gi_wp2_with fail
 have hz3:Below w.heap.size w (W5.putObj (w.heap.size+1) (.deferred none)):=(But.putObj _ _).below HB5.out (by omega)
 show LeavesInM _ _ _ _ _ _ [_] .returning _
 refine ⟨by simp,.inl ⟨_,_,rfl,run_takeDeferred HD5.out,?_⟩⟩
 refine ⟨v5,?_,v5,rfl,?_,hz3⟩
 ·simp [results,Tryz.results217,go_sem]
 ·exact Zg5 (Zt HR5.out fun g hg _=>World.putObj_heap_other (by omega)) (by omega)
theorem Zll (ks:List ByteArray) (hks:ks.length≤100000000) (a:Option Addr) (cap Bs:Nat) (w:World) (hBs:Boxed w Bs 44 (.slice a ks.length cap)) (hcap:ks.length≤cap) (hat:Zby w.heap.size w a ks) :
  Calls Tryz.prog 174 #[.func (.func 176) #[] #[.pointer (some ⟨Bs,0,none⟩)]] w fun e w'=>∃ v,e=.returned v∧w'.ownsRow w.heap.size 9 1 v ks.length (ks.map Value.string)∧Below w.heap.size w w':=by
 have HC:=Zb (Ziw ks hks a cap Bs w hBs hcap hat)
 clear hBs hcap hat
 go_enter Tryz.func174,Tryz.ntmps174
 go_wp2_with fail
 refine HC.out.mono ?_
 rintro e w2 ⟨v,rfl,ho,hb⟩
 have HO:=Zb ho
 have HB:=Zb hb
 clear ho hb
 go_wp2_with fail
 go_ret
 exact ⟨v,rfl,HO.out,HB.out⟩
end
section
open Go.RowKit Go.Shelf Go.Sort
set_option maxHeartbeats 2000000
set_option maxRecDepth 100000
set_option linter.all false
attribute [local go_sem] Oper.semAt_some
def Zku (ks:List ByteArray):List (List UInt8):=(ks.map fun b=>b.data.toList).mergeSort fun x y=>decide (x≤y)
def Zdt (ks:List ByteArray):List ByteArray:=(Zku ks).map fun l=>⟨l.toArray⟩
theorem Zup (ks:List ByteArray):(Zku ks).length=ks.length:=by simp [Zku]
theorem Zmf (ks:List ByteArray):(Zdt ks).length=ks.length:=by simp [Zdt,Zup]
theorem Zx0 (ks:List ByteArray):ks.map Value.string=(ks.map fun b=>b.data.toList).map encStr:=by simp [encStr,Function.comp_def]
theorem Zuq (ks:List ByteArray):(Zku ks).map encStr=(Zdt ks).map Value.string:=by simp [Zdt,encStr,Function.comp_def]
theorem Zns (ks:List ByteArray) (hks:ks.length≤100000000) (a:Option Addr) (cap Bs:Nat) (w:World) (hBs:Boxed w Bs 44 (.slice a ks.length cap)) (hcap:ks.length≤cap) (hat:Zby w.heap.size w a ks) :
  Calls Tryz.prog 136 #[.func (.func 176) #[] #[.pointer (some ⟨Bs,0,none⟩)]] w fun e w'=>∃ v,e=.returned v∧w'.ownsRow w.heap.size 9 1 v ks.length ((Zdt ks).map Value.string)∧RowKit.Below w.heap.size w w':=by
 have HC:=Zb (Zll ks hks a cap Bs w hBs hcap hat)
 clear hBs hcap hat
 go_enter Tryz.func136,Tryz.ntmps136
 go_wp2_with fail
 refine HC.out.mono ?_
 rintro e w2 ⟨v,rfl,ho,hb⟩
 have HO:=Zb ho
 have HB:=Zb hb
 clear HC hb
 rcases ho.2 with ⟨rfl,hz⟩ | ⟨gb,gc,cur,rfl,hbase,hgb,r1,r2,r3,r4⟩
 ·have e0:ks=[]:=List.eq_nil_of_length_eq_zero hz
  have HS:=Zb (Tryz.slices_Sort_string_none none 0 w2)
  clear ho hz
  go_wp2_with fail
  refine HS.out.mono ?_
  rintro e w3 ⟨rfl,hw3⟩
  rw [hw3]
  clear hw3
  go_wp2_with fail
  go_ret
  refine ⟨_,rfl,?_,HB.out⟩
  subst e0
  simpa [Zdt,Zku] using HO.out
 ·have hl:(ks.map fun b=>b.data.toList).length=ks.length:=by simp
  have hH:Holds encStr w2 gb 0 (ks.map fun b=>b.data.toList).toArray:=holds_of_block hgb (by rw [hl,← Zx0];simpa using r4)
  have hgl:gb<w2.heap.size:=(Array.getElem?_eq_some_iff.1 hgb).1
  have hsz:(ks.map fun b=>b.data.toList).length<4611686018427387904:=by rw [hl];omega
  have HS:=Zb (Tryz.slices_Sort_string gb 0 gc (ks.map fun b=>b.data.toList) w2 hH hgl hsz)
  rw [hl] at HS
  have HBL:=Zb hgb
  have HR:=Zb (And.intro r1 (And.intro r2 r3))
  have HBS:=Zb hbase
  clear ho hgb r1 r2 r3 r4 hH hsz hl hbase
  go_wp2_with fail
  refine HS.out.mono ?_
  rintro e w3 ⟨rfl,nn,os,hw3⟩
  have HO3:Hid (w3.ownsRow w.heap.size 9 1 (.slice (some ⟨gb,0,none⟩) ks.length gc) ks.length ((Zku ks).map encStr)):=by
   show World.ownsRow _ _ _ _ _ _ _
   rw [hw3]
   have h:=ownsRow_sorted (w:=w2) (base:=w.heap.size) (g:=gb) (cap:=gc) (n:=nn) (e:=9) (os:=os) (cur:=cur) (ss:=ks.map fun b=>b.data.toList) (ts:=Zku ks) (by simp [Zku]) HBS.out HBL.out (by simpa using HR.out.1) HR.out.2.1 HR.out.2.2
   simp only [List.length_map] at h
   exact h
  have HB3:Hid (RowKit.Below w.heap.size w w3):=by
   rw [hw3]
   exact HB.out.grown (grownBy_sorted _) HB.out.size (fun j hj=>by cases hj;exact HBS.out)
  clear hw3 HBL HR HO HB HS
  go_wp2_with fail
  go_ret
  refine ⟨_,rfl,?_,HB3.out⟩
  rw [← Zuq]
  exact HO3.out
theorem Zmg (ks:List ByteArray) (hks:ks.length≤100000000) (a:Option Addr) (cap:Nat) (w:World) (hcap:ks.length≤cap) (hat:Zby w.heap.size w a ks) :
  Calls Tryz.prog 89 #[.slice a ks.length cap] w fun e w'=>∃ g,e=.returned (.func (.func 138) #[] #[.pointer (some ⟨g,0,none⟩)])∧w.heap.size≤g∧Jbb w' w.heap.size g w' (Zdt ks)∧g+1=w'.heap.size∧RowKit.Below w.heap.size w w':=by
 have HV:=Zb (Zoh a ks.length cap w)
 have hB0:RowKit.Below w.heap.size w (w.alloc (.cells #[.slice a ks.length cap] 44)):=(RowKit.Below.refl _ _).alloc (Nat.le_refl _) _
 have HS:=Zb (Zns ks hks a cap w.heap.size (w.alloc (.cells #[.slice a ks.length cap] 44)) (World.alloc_heap_new _ _) hcap ((hat.below hB0).mono hB0.size))
 have HB0:=Zb hB0
 have hsl:=Zmf ks
 obtain ⟨n,hn⟩:∃ n,ks.length=n:=⟨_,rfl⟩
 rw [hn] at HV HS hsl HB0 ⊢
 have HN:=Zb hn
 have HSL:=Zb hsl
 clear hat hB0 hn hsl hks hcap
 go_enter Tryz.func89,Tryz.ntmps89
 go_wp2_with fail
 refine HV.out.mono ?_
 rintro e w1 ⟨rfl,hw1⟩
 have HS1:Hid (Calls Tryz.prog 136 #[.func (.func 176) #[] #[.pointer (some ⟨w.heap.size,0,none⟩)]] w1 fun e w'=>∃ v,e=.returned v∧w'.ownsRow w1.heap.size 9 1 v n ((Zdt ks).map Value.string)∧RowKit.Below w1.heap.size w1 w'):=by rw [hw1];exact HS.out
 have HB1:Hid (RowKit.Below w.heap.size w w1):=by rw [hw1];exact HB0.out
 clear hw1 HS HB0 HV
 go_wp2_with fail
 refine HS1.out.mono ?_
 rintro e w2 ⟨v,rfl,ho,hb2⟩
 have HB2:=Zb (Za HB1.out hb2)
 obtain ⟨ua,uc,rfl⟩:=Zw ho
 have HO2:=Zb ho
 clear ho hb2 HS1
 go_upto_region 2 with fail
 obtain ⟨W3,hW3⟩:∃ W3,w2.alloc (.cells #[.slice ua n uc] 44)=W3:=⟨_,rfl⟩
 rw [hW3]
 have HB3:Hid (RowKit.Below w2.heap.size w2 W3):=by rw [← hW3];exact (RowKit.Below.refl _ _).alloc (Nat.le_refl _) _
 have HR3:Hid (Rec W3 w2.heap.size #[.slice ua n uc] 44):=by rw [← hW3];exact Zl w2 #[.slice ua n uc] 44
 have hz3:w2.heap.size+1=W3.heap.size:=by rw [← hW3];simp
 have HZ3:=Zb hz3
 clear hW3 hz3
 go_wp2_with fail
 go_ret
 refine ⟨_,rfl,HB2.out.size,⟨?_,rfl,fun _ _=>rfl,RowKit.Below.refl _ _⟩,HZ3.out,Za HB2.out HB3.out⟩
 rcases HO2.out.2 with ⟨h1,h2⟩ | ⟨gb,gc,cur,h1,hbase,hgb,r1,r2,r3,r4⟩
 ·have e0:Zdt ks=[]:=List.eq_nil_of_length_eq_zero (by rw [HSL.out];exact h2)
  injection h1 with e1 e2 e3
  rw [e0]
  subst e2
  exact ⟨ua,uc,HR3.out,.inl rfl,Nat.zero_le _,by rw [e3];decide⟩
 ·have h1':=h1
  injection h1 with e1 e2 e3
  subst e1 e3
  rw [HSL.out]
  have hgl:gb<w2.heap.size:=(Array.getElem?_eq_some_iff.1 hgb).1
  refine ⟨_,uc,HR3.out,.inr ⟨gb,0,rfl,⟨Nat.le_trans HB1.out.size hbase,hgl⟩,fun i x hx=>?_⟩,r1,by unfold maxLen at r2;omega⟩
  have hc:=HO2.out.cells (g:=gb) rfl i (.string x) (by rw [List.getElem?_map,hx];rfl)
  have hadd:(⟨gb,0,none⟩:Addr).add i=⟨gb,i,none⟩:=by unfold Addr.add;split<;>simp_all
  rw [hadd] at hc
  rw [Nat.zero_add]
  exact (HB3.out.cell (p:=⟨gb,i,none⟩) hgl).trans hc
end
