import Derived.Test.YteddjlbfbpecjaaGreatDoorJoin6
import Derived.Sort.OwnSorted
namespace Go.Proofs.YteddjlbfbpecjaaGreatDoor
set_option maxHeartbeats 2000000
set_option maxRecDepth 100000
set_option linter.all false
section
open Go.RowKit
inductive Zi  where
 | mk (k:Int) (b:Bool) (n:Int) (s:ByteArray) (ks:List ByteArray) (ts:List Zi)
theorem Zi.ind {p:Zi->Prop} (h:∀ k b n s ks ts,(∀ t ∈ ts,p t)->p (.mk k b n s ks ts)):∀ T,p T
 | .mk k b n s ks ts=>h k b n s ks ts fun t j=>Zi.ind h t
termination_by T=>SizeOf.sizeOf T
decreasing_by
 have:=List.sizeOf_lt_of_mem j
 simp
 omega
def Zi.kind  : Zi->Int | .mk k _ _ _ _ _=>k
def Zi.text  : Zi->ByteArray | .mk _ _ _ s _ _=>s
def Zi.keys  : Zi->List ByteArray | .mk _ _ _ _ ks _=>ks
def Zi.kids  : Zi->List Zi | .mk _ _ _ _ _ ts=>ts
def Zab (B:Nat) (w:World) (D:Option Addr) (ks:List ByteArray):Prop :=
 ks=[]\/∃ b off,D=some ⟨b,off,none⟩/\b<B/\∀ i,i<ks.length->w.cell? ⟨b,off+i,none⟩=some (.string (ks.getD i ⟨#[]⟩))/\(ks.getD i ⟨#[]⟩).size<=maxLen
mutual
def Zaw (B:Nat) (w:World):Value->Zi->Prop
 | v,.mk k b n s ks ts=>∃ ka kc la lc,v=.agg #[.int .i64 k,.bool b,.int .i64 n,.string s,.slice ka ks.length kc,.slice la ts.length lc] /\
   (s.size<=maxLen/\ks.length<=kc/\kc<=maxLen/\ts.length<=lc/\lc<=maxLen)/\Zab B w ka ks/\(ts=[]\/∃ c off,la=some ⟨c,off,none⟩/\c<B/\KidsLie B w c off ts)
def KidsLie (B:Nat) (w:World) (c:Nat):Nat->List Zi->Prop
 | _,[]=>True
 | off,t::ts=>(∃ v0 v1 v2 v3 v4 v5,(w.cell? ⟨c,off,none⟩=some v0/\w.cell? ⟨c,off+1,none⟩=some v1/\w.cell? ⟨c,off+2,none⟩=some v2/\w.cell? ⟨c,off+3,none⟩=some v3 /\
   w.cell? ⟨c,off+4,none⟩=some v4/\w.cell? ⟨c,off+5,none⟩=some v5)/\Zaw B w (.agg #[v0,v1,v2,v3,v4,v5]) t)/\KidsLie B w c (off+6) ts
end
mutual
theorem Zaw.below {B:Nat} {w w':World} (h:Below B w w'):∀ {v:Value} {T:Zi},Zaw B w v T->Zaw B w' v T
 | v,.mk k b n s ks ts,g=>by
  simp only [Zaw] at g |-
  obtain ⟨ka,kc,la,lc,m,A,o,j⟩:=g
  refine ⟨ka,kc,la,lc,m,A,?_,?_⟩
  ·rcases o with o | ⟨x,off,e,f,l⟩
   ·exact .inl o
   ·exact .inr ⟨x,off,e,f,fun i C=>⟨(h.cell (p:=⟨x,off+i,none⟩) f).trans (l i C).1,(l i C).2⟩⟩
  ·rcases j with j | ⟨c,off,e,f,l⟩
   ·exact .inl j
   ·exact .inr ⟨c,off,e,f,KidsLie.below h f l⟩
theorem KidsLie.below {B:Nat} {w w':World} (h:Below B w w') {c:Nat} (f:c<B):∀ {off:Nat} {ts:List Zi},KidsLie B w c off ts->KidsLie B w' c off ts
 | off,[],g=>by simp only [KidsLie]
 | off,t::ts,g=>by
  simp only [KidsLie] at g |-
  obtain ⟨⟨v0,v1,v2,v3,v4,v5,⟨c0,c1,c2,c3,c4,c5⟩,m⟩,y⟩:=g
  exact ⟨⟨v0,v1,v2,v3,v4,v5,⟨(h.cell (p:=⟨c,off,none⟩) f).trans c0,(h.cell (p:=⟨c,off+1,none⟩) f).trans c1,(h.cell (p:=⟨c,off+2,none⟩) f).trans c2,(h.cell (p:=⟨c,off+3,none⟩) f).trans c3,
   (h.cell (p:=⟨c,off+4,none⟩) f).trans c4,(h.cell (p:=⟨c,off+5,none⟩) f).trans c5⟩,Zaw.below h m⟩,KidsLie.below h f y⟩
end
mutual
theorem Zaw.mono {B r:Nat} {w:World} (h:B<=r):∀ {v:Value} {T:Zi},Zaw B w v T->Zaw r w v T
 | v,.mk k b n s ks ts,g=>by
  simp only [Zaw] at g |-
  obtain ⟨ka,kc,la,lc,m,A,o,j⟩:=g
  refine ⟨ka,kc,la,lc,m,A,?_,?_⟩
  ·rcases o with o | ⟨x,off,e,f,l⟩
   ·exact .inl o
   ·exact .inr ⟨x,off,e,Nat.lt_of_lt_of_le f h,l⟩
  ·rcases j with j | ⟨c,off,e,f,l⟩
   ·exact .inl j
   ·exact .inr ⟨c,off,e,Nat.lt_of_lt_of_le f h,KidsLie.mono h l⟩
theorem KidsLie.mono {B r:Nat} {w:World} (h:B<=r) {c:Nat}:∀ {off:Nat} {ts:List Zi},KidsLie B w c off ts->KidsLie r w c off ts
 | off,[],g=>by simp only [KidsLie]
 | off,t::ts,g=>by
  simp only [KidsLie] at g |-
  obtain ⟨⟨v0,v1,v2,v3,v4,v5,l,m⟩,y⟩:=g
  exact ⟨⟨v0,v1,v2,v3,v4,v5,l,Zaw.mono h m⟩,KidsLie.mono h y⟩
end
theorem KidsLie.at {B:Nat} {w:World} {c:Nat}:∀ {ts:List Zi} {off:Nat},KidsLie B w c off ts->∀ {i:Nat} {t:Zi},ts[i]?=some t ->
  ∃ v0 v1 v2 v3 v4 v5,(w.cell? ⟨c,off+i*6,none⟩=some v0/\w.cell? ⟨c,off+i*6+1,none⟩=some v1/\w.cell? ⟨c,off+i*6+2,none⟩=some v2/\w.cell? ⟨c,off+i*6+3,none⟩=some v3 /\
   w.cell? ⟨c,off+i*6+4,none⟩=some v4/\w.cell? ⟨c,off+i*6+5,none⟩=some v5)/\Zaw B w (.agg #[v0,v1,v2,v3,v4,v5]) t
 | [],off,_,i,t,h=>by simp at h
 | t::ts,off,g,0,u,h=>by
  simp only [KidsLie] at g
  simp at h;subst h
  simpa using g.1
 | t::ts,off,g,i+1,u,h=>by
  simp only [KidsLie] at g
  have:=KidsLie.at g.2 (i:=i) (t:=u) (by simpa using h)
  rw [show off+6+i*6=off+(i+1)*6 from by omega] at this
  exact this
theorem KidsLie.cells {B:Nat} {w:World} {c:Nat} {ts:List Zi} {off:Nat} (h:KidsLie B w c off ts) {i:Nat} {k:Int} {b:Bool} {n:Int} {s:ByteArray} {ks:List ByteArray} {q:List Zi} (j:ts[i]?=some (.mk k b n s ks q)) :
  ∃ ka kc la lc,(w.cell? ⟨c,off+i*6,none⟩=some (.int .i64 k)/\w.cell? ⟨c,off+i*6+1,none⟩=some (.bool b)/\w.cell? ⟨c,off+i*6+2,none⟩=some (.int .i64 n)/\w.cell? ⟨c,off+i*6+3,none⟩=some (.string s) /\
   w.cell? ⟨c,off+i*6+4,none⟩=some (.slice ka ks.length kc)/\w.cell? ⟨c,off+i*6+5,none⟩=some (.slice la q.length lc)) /\
   Zaw B w (.agg #[.int .i64 k,.bool b,.int .i64 n,.string s,.slice ka ks.length kc,.slice la q.length lc]) (.mk k b n s ks q):=by
 obtain ⟨v0,v1,v2,v3,v4,v5,⟨c0,c1,c2,c3,c4,c5⟩,g⟩:=h.at j
 have z:=g
 simp only [Zaw] at g
 obtain ⟨ka,kc,la,lc,e,_⟩:=g
 simp only [Value.agg.injEq,Array.mk.injEq,List.cons.injEq,and_true] at e
 obtain ⟨rfl,rfl,rfl,rfl,rfl,rfl⟩:=e
 exact ⟨ka,kc,la,lc,⟨c0,c1,c2,c3,c4,c5⟩,z⟩
mutual
def Zi.pre (d:Int):Zi->List (Int × Zi)
 | .mk k b n s ks ts=>(d,.mk k b n s ks ts)::Zi.preL (d+1) ts
def Zi.preL (d:Int):List Zi->List (Int × Zi)
 | []=>[]
 | t::ts=>t.pre d++Zi.preL d ts
end
mutual
def Zi.height  : Zi->Nat
 | .mk _ _ _ _ _ ts=>Zi.heightL ts+1
def Zi.heightL  : List Zi->Nat
 | []=>0
 | t::ts=>max t.height (Zi.heightL ts)
end
theorem Zi.height_mem  : ∀ {ts:List Zi} {t:Zi},t ∈ ts->t.height<=Zi.heightL ts
 | [],_,h=>by simp at h
 | u::q,t,h=>by
  simp only [Zi.heightL]
  rcases List.mem_cons.1 h with rfl | h
  ·omega
  ·have:=Zi.height_mem h;omega
theorem Zi.preL_append (d:Int):∀ a b:List Zi,Zi.preL d (a++b)=Zi.preL d a++Zi.preL d b
 | [],b=>by simp [Zi.preL]
 | t::a,b=>by simp [Zi.preL,Zi.preL_append d a b]
theorem Zi.preL_take (d:Int) (ts:List Zi) (i:Nat) (t:Zi) (h:ts[i]?=some t):Zi.preL d (ts.take (i+1))=Zi.preL d (ts.take i)++t.pre d:=by
 rw [List.take_add_one,h,Zi.preL_append]
 simp [Zi.preL]
end
section
open Go.RowKit Go.Shelf
attribute [local go_sem] Oper.semAt_some
structure Zrg (F:Fence) (l B C:Nat) (z:World) (L:List (Int × Zi)) (J:List (Int × Zi)->World->Prop) (Jx:World->Prop) (Jp:List PanicEntry->World->Prop):Prop where
 old:∀ pre W,J pre W->Below B z W/\B<=W.heap.size/\C<=W.heap.size
 more:∀ pre W f,J pre W->Below W.heap.size W f->J pre f
 round:∀ m pre d t v W,J pre W->Zaw B z v t->pre++[(d,t)] <+: L->YieldAt F m Tryz.prog l #[.int .i64 d,v] W fun e f =>
  (e=.returned (.bool true)/\J (pre++[(d,t)]) f/\Zcp C W f)\/(e=.returned (.bool false)/\Jx f)\/(∃ g,e=.panicked g/\Jp g f)
set_option maxRecDepth 100000 in
set_option maxHeartbeats 1000000 in
theorem Zz2 {F:Fence} (hd:F.depth=none) (I:F.fn 237) (h:F.round=none) {l B C:Nat} {z:World} {L:List (Int × Zi)} {J:List (Int × Zi)->World->Prop} {Jx:World->Prop} {Jp:List PanicEntry->World->Prop}
  (R:Zrg F l B C z L J Jx Jp):∀ (T:Zi) (n:Nat) (d:Int) (v:Value) (pre:List (Int × Zi)) (W:World),Zaw B z v T->J pre W->0<=d->d+T.height<=1000000000->pre++T.pre d <+: L ->
  CallsIn F n Tryz.prog 237 #[.int .i64 d,v,.func (.yield l) #[] #[]] W fun e f =>
   (e=.returned (.bool true)/\J (pre++T.pre d) f/\Zcp C W f)\/(e=.returned (.bool false)/\Jx f)\/(∃ g,e=.panicked g/\Jp g f):=by
 refine Zi.ind ?_
 intro k b n s ks ts ih m d v pre W P Q b8 a6 hL
 simp only [Zi.pre] at hL
 have HL:Hid (pre++[(d,.mk k b n s ks ts)]++Zi.preL (d+1) ts <+: L):=by simpa [Hid] using hL
 clear hL
 have b3:=Ze0 hd
 have O:=P
 simp only [Zaw] at P
 obtain ⟨ka,kc,la,lc,rfl,⟨b0,b5,a7,b1,a3⟩,hk,ht⟩:=P
 unfold maxLen at b0 a7 a3
 have ho:=R.old pre W Q
 have hy:=R.round (m - 1) pre d (.mk k b n s ks ts) _ (W.alloc (.cells #[.int .i64 k,.bool b,.int .i64 n,.string s,.slice ka ks.length kc,.slice la ts.length lc] 60)) (R.more _ _ _ Q ((Below.refl _ _).alloc (Nat.le_refl _) _)) O ((List.prefix_append _ _).trans HL.out)
 obtain ⟨fn,tmps,assign,body,X,hR⟩:=hy
 refine callsIn_of_wp Tryz.func237 rfl I ?_ h
 simp only [Tryz.ntmps237,List.size_toArray,List.length_cons,List.length_nil,Nat.reduceAdd,Nat.reduceSub,Array.replicate_succ,Array.replicate_zero,List.push_toArray,List.append_toArray,List.nil_append,List.cons_append]
 gi_wp2_with fail
 refine hR.mono ?_
 clear hR X
 have hC:C<=W.heap.size:=ho.2.2
 rintro e W2 (⟨rfl,V,H⟩ | ⟨rfl,a9⟩ | ⟨g,rfl,hp⟩)
 ·have c5:W2.cell? ⟨W.heap.size,5,none⟩=some (.slice la ts.length lc):=(H.cell (p:=⟨W.heap.size,5,none⟩) hC (by simp)).trans (Zaj _ _ _ _ _ rfl)
  have HA:Hid (Zcp C W W2):=(((Zcp.refl C W).alloc _).trans H:Zcp C W W2)
  clear H ho O hk Q
  gi_wp2_with fail
  gi_loopw [17] (fun i wr=>∃ j:Nat,j<=ts.length/\i=.int .i64 j/\J (pre++[(d,.mk k b n s ks ts)]++Zi.preL (d+1) (ts.take j)) wr/\Zcp C W wr) (fun i _=>ts.length - (intOf i).toNat)
  case atStart=>exact ⟨0,Nat.zero_le _,rfl,by simpa [Zi.preL] using V,HA.out⟩
  case round =>
   obtain ⟨j,hj,rfl,q,U⟩:=hrel
   by_cases hlt:j<ts.length
   ·obtain ⟨⟨k',b',n',s',G,Y⟩,u⟩:∃ t,ts[j]?=some t:=⟨_,List.getElem?_eq_getElem hlt⟩
    have A:Zi.mk k' b' n' s' G Y ∈ ts:=List.mem_of_getElem? u
    obtain ⟨N,off,rfl,o,r⟩:=ht.resolve_left (by intro e;subst e;simp at hlt)
    obtain ⟨b4,b2,b6,b7,⟨c0,c1,c2,c3,c4,c6⟩,a1⟩:=r.cells u
    have c:=(R.old _ _ q).1
    replace c0:=(c.cell (p:=⟨N,off+j*6,none⟩) o).trans c0
    replace c1:=(c.cell (p:=⟨N,off+j*6+1,none⟩) o).trans c1
    replace c2:=(c.cell (p:=⟨N,off+j*6+2,none⟩) o).trans c2
    replace c3:=(c.cell (p:=⟨N,off+j*6+3,none⟩) o).trans c3
    replace c4:=(c.cell (p:=⟨N,off+j*6+4,none⟩) o).trans c4
    replace c6:=(c.cell (p:=⟨N,off+j*6+5,none⟩) o).trans c6
    have S:Hid (ts[j]?=some (Zi.mk k' b' n' s' G Y)):=u
    have HJ:Hid (J (pre++[(d,.mk k b n s ks ts)]++Zi.preL (d+1) (ts.take j)) wr):=q
    clear u c r q ht c5 V
    have hh:=Zi.height_mem A
    have a2:Hid (pre++[(d,.mk k b n s ks ts)]++Zi.preL (d+1) (ts.take j)++(Zi.mk k' b' n' s' G Y).pre (d+1) <+: pre++[(d,.mk k b n s ks ts)]++Zi.preL (d+1) ts):=by
     have e:=Zi.preL_take (d+1) ts j _ S.out
     have e2:Zi.preL (d+1) ts=Zi.preL (d+1) (ts.take (j+1))++Zi.preL (d+1) (ts.drop (j+1)):=by rw [<- Zi.preL_append,List.take_append_drop]
     rw [e2,e]
     exact ⟨Zi.preL (d+1) (ts.drop (j+1)),by simp [List.append_assoc]⟩
    simp only [Zi.height] at a6 hh
    gi_wp2_with fail
    refine (ih _ A (m - 1) (d+1) _ _ _ a1 (R.more _ _ _ HJ.out ((Below.refl _ _).alloc (Nat.le_refl _) _)) (by omega) (by simp only [Zi.height];omega) (a2.out.trans HL.out)).mono ?_
    rintro e W3 (⟨rfl,y,K⟩ | ⟨rfl,D⟩ | ⟨g,rfl,E⟩)
    ·have a4:Hid (J (pre++[(d,.mk k b n s ks ts)]++Zi.preL (d+1) (ts.take (j+1))) W3):=by
      rw [Zi.preL_take _ _ _ _ S.out,<- List.append_assoc];exact y
     have a8:Hid (Zcp C W W3):=U.trans (((Zcp.refl C wr).alloc _).trans K)
     clear y K
     gi_wp2_with fail
     go_roundw
     case rel=>exact ⟨j+1,by omega,by go_num,a4.out,a8.out⟩
     case measure=>simp [intOf];omega
    ·gi_wp2_with fail
     go_ret
     exact .inr (.inl ⟨rfl,D⟩)
    ·exact ⟨rfl,.inr (.inr ⟨g,rfl,E⟩)⟩
   ·gi_wp2_with fail
    go_ret
    refine .inl ⟨rfl,?_,U⟩
    rw [List.take_of_length_le (by omega)] at q
    simpa [Zi.pre] using q
 ·gi_wp2_with fail
  go_ret
  exact .inr (.inl ⟨rfl,a9⟩)
 ·exact ⟨rfl,.inr (.inr ⟨g,rfl,hp⟩)⟩
theorem Ziz {F:Fence} (hd:F.depth=none) (a0:F.fn 236) (I:F.fn 237) (h:F.round=none) {l B C:Nat} {z:World} {J:List (Int × Zi)->World->Prop} {Jx:World->Prop} {Jp:List PanicEntry->World->Prop}
  {k:Int} {b:Bool} {n:Int} {s:ByteArray} {ks:List ByteArray} {ts:List Zi} {ka:Option Addr} {kc:Nat} {la:Option Addr} {lc:Nat}
  (R:Zrg F l B C z ((Zi.mk k b n s ks ts).pre 1) J Jx Jp) (m M:Nat) (W:World) (P:Zaw B z (.agg #[.int .i64 k,.bool b,.int .i64 n,.string s,.slice ka ks.length kc,.slice la ts.length lc]) (.mk k b n s ks ts))
  (Q:J [] W) (hh:Zi.heightL ts<100000000)
  (c0:W.cell? ⟨M,0,none⟩=some (.int .i64 k)) (c1:W.cell? ⟨M,1,none⟩=some (.bool b)) (c2:W.cell? ⟨M,2,none⟩=some (.int .i64 n)) (c3:W.cell? ⟨M,3,none⟩=some (.string s))
  (c4:W.cell? ⟨M,4,none⟩=some (.slice ka ks.length kc)) (c5:W.cell? ⟨M,5,none⟩=some (.slice la ts.length lc)) :
  CallsIn F m Tryz.prog 236 #[.func (.yield l) #[] #[],.pointer (some ⟨M,0,none⟩)] W fun e f =>
   ((∃ x,e=.returned x)/\(J ((Zi.mk k b n s ks ts).pre 1) f\/Jx f))\/(∃ g,e=.panicked g/\Jp g f):=by
 have hw:=Zz2 hd I h R (.mk k b n s ks ts) (m - 1) 1 _ [] W P Q (by omega) (by simp only [Zi.height];omega) (List.prefix_refl _)
 refine callsIn_of_wp Tryz.func236 rfl a0 ?_ h
 simp only [Tryz.ntmps236,List.size_toArray,List.length_cons,List.length_nil,Nat.reduceAdd,Nat.reduceSub,Array.replicate_succ,Array.replicate_zero,List.push_toArray,List.append_toArray,List.nil_append,List.cons_append]
 gi_wp2_with fail
 refine hw.mono ?_
 rintro e W3 (⟨rfl,y,K⟩ | ⟨rfl,D⟩ | ⟨g,rfl,E⟩)
 ·clear hw
  gi_wp2_with fail
  go_end0
  exact .inl ⟨⟨_,rfl⟩,.inl (by simpa using y)⟩
 ·clear hw
  gi_wp2_with fail
  go_end0
  exact .inl ⟨⟨_,rfl⟩,.inr D⟩
 ·exact ⟨rfl,.inr ⟨g,rfl,E⟩⟩
theorem Zkl {F:Fence} (a5:F.fn 204) (h:F.round=none) (m:Nat) (k:Int) (b:Bool) (n:Int) (s:ByteArray) (ka:Option Addr) (kl kc:Nat) (la:Option Addr) (ll lc:Nat) (w:World) :
  CallsIn F m Tryz.prog 204 #[.agg #[.int .i64 k,.bool b,.int .i64 n,.string s,.slice ka kl kc,.slice la ll lc]] w fun e w' =>
   e=.returned (.func (.func 236) #[] #[.pointer (some ⟨w.heap.size,0,none⟩)])/\w'=w.alloc (.cells #[.int .i64 k,.bool b,.int .i64 n,.string s,.slice ka kl kc,.slice la ll lc] 60):=by
 refine callsIn_of_wp Tryz.func204 rfl a5 ?_ h
 simp only [Tryz.ntmps204,List.size_toArray,List.length_cons,List.length_nil,Nat.reduceAdd,Nat.reduceSub,Array.replicate_succ,Array.replicate_zero,List.push_toArray,List.append_toArray,List.nil_append,List.cons_append]
 gi_wp2
 go_ret
 exact ⟨rfl,rfl⟩
end
section
open Go.RowKit Go.Shelf
attribute [local go_sem] Oper.semAt_some
def Zca (n:Nat) (W:World) (a:Option Addr) (ks:List ByteArray):Prop:=∀ i x,ks[i]?=some x->∃ b off,a=some ⟨b,off,none⟩/\b<n/\W.cell? ⟨b,off+i,none⟩=some (.string x)
theorem Zca.below {n:Nat} {W Q:World} {a:Option Addr} {ks:List ByteArray} (h:Zca n W a ks) (hb:Below n W Q):Zca n Q a ks:=fun i x V=>by
 obtain ⟨b,off,e,hl,hc⟩:=h i x V
 exact ⟨b,off,e,hl,(hb.cell (p:=⟨b,off+i,none⟩) hl).trans hc⟩
theorem Zca.mono {n m:Nat} {W:World} {a:Option Addr} {ks:List ByteArray} (h:Zca n W a ks) (hm:n<=m):Zca m W a ks:=fun i x V=>by
 obtain ⟨b,off,e,hl,hc⟩:=h i x V
 exact ⟨b,off,e,by omega,hc⟩
theorem Zhl {α:Type} {ks:List α} {j:Nat} {x:α} (h:ks[j]?=some x):ks.take j++[x] <+: ks:=by
 have e:ks.take j++[x]=ks.take (j+1):=by
  rw [List.take_add_one,h];rfl
 rw [e];exact List.take_prefix _ _
theorem Zsw {α:Type} {ks:List α} {j:Nat} {x:α} (h:ks[j]?=some x):ks.take j++[x]=ks.take (j+1):=by
 rw [List.take_add_one,h];rfl
theorem Zna {F:Fence} (hd:F.depth=none) (M:F.round=none) (E:∀ f,F.fn f) {l n₀:Nat} (ks:List ByteArray) (R:ks.length<=1000000000) (a:Option Addr) (cap G:Nat) (J:List ByteArray->World->Prop)
  (hY:∀ m pre x W,J pre W->pre++[x] <+: ks->YieldAt F m Tryz.prog l #[.string x] W fun e Q=>e=.returned (.bool true)/\J (pre++[x]) Q/\Below n₀ W Q)
  (W:World) (k:W.cell? ⟨G,0,none⟩=some (.slice a ks.length cap)) (r:ks.length<=cap) (t:Zca n₀ W a ks) (h0:J [] W) (m:Nat) :
  CallsIn F m Tryz.prog 176 #[.func (.yield l) #[] #[],.pointer (some ⟨G,0,none⟩)] W fun e Q=>(∃ v,e=.returned v)/\J ks Q:=by
 have e6:=Ze0 hd
 have HT:=Zb t
 have HY:=Zb hY
 obtain ⟨n,hn⟩:∃ n,ks.length=n:=⟨_,rfl⟩
 have HN:=Zb hn
 rw [hn] at k r R
 clear t hY hn
 refine callsIn_of_wp Tryz.func176 rfl (E _) ?_ M
 simp only [Tryz.ntmps176,List.size_toArray,List.length_cons,List.length_nil,Nat.reduceAdd,Nat.reduceSub,Array.replicate_succ,Array.replicate_zero,List.push_toArray,List.append_toArray,List.nil_append,List.cons_append]
 gi_wp2_with fail
 gi_loopw [7] (fun i wr=>∃ j:Nat,j<=n/\i=.int .i64 j/\J (ks.take j) wr/\Below n₀ W wr) (fun i _=>n - (intOf i).toNat)
 case atStart=>exact ⟨0,Nat.zero_le _,rfl,by simpa using h0,Below.refl _ _⟩
 case round =>
  obtain ⟨j,hj,rfl,U,a1⟩:=hrel
  by_cases hlt:j<n
  ·obtain ⟨x,V⟩:∃ x,ks[j]?=some x:=⟨_,List.getElem?_eq_getElem (by have:=HN.out;omega)⟩
   obtain ⟨b,off,rfl,H,hc⟩:=HT.out j x V
   have c0:=(a1.cell (p:=⟨b,off+j,none⟩) H).trans hc
   obtain ⟨fn,tmps,assign,body,d0,hR⟩:=HY.out (m - 1) (ks.take j) x wr U (Zhl V)
   have HX:=Zb V
   have d9:=Zb a1
   clear V hc U a1 k h0
   gi_wp2_with fail
   refine hR.mono ?_
   clear hR d0
   rintro e W3 ⟨rfl,a0,y⟩
   rw [Zsw HX.out] at a0
   have D:=Zb (d9.out.trans y)
   have c4:=Zb a0
   clear y a0 c0
   gi_wp2_with fail
   go_roundw
   case rel=>exact ⟨j+1,by omega,by go_num,c4.out,D.out⟩
   case measure=>simp [intOf];omega
  ·have a5:J ks wr:=by rwa [List.take_of_length_le (by have:=HN.out;omega)] at U
   have I:=Zb a5
   clear U a5 k h0
   gi_wp2_with fail
   go_end0
   exact ⟨⟨_,rfl⟩,I.out⟩
structure ApJ (w:World) (d:Loop) (pre:List ByteArray) (W:World):Prop where
 room:w.heap.size+3<=W.heap.size
 loop:W.heap[w.heap.size+2]?=some (.loop d)
 dfr:W.heap[w.heap.size+1]?=some (.deferred (some []))
 box:∃ v,Boxed W w.heap.size 44 v/\W.ownsRow (w.heap.size+3) 9 1 v pre.length (pre.map Value.string)
 below:Below w.heap.size w W
theorem Jn {W:World} {base e size n:Nat} {v:Value} {xs:List Value} (h:W.ownsRow base e size v n xs):∃ ua uc,v=.slice ua n uc:=by
 obtain ⟨_,⟨h1,h2⟩ | ⟨g,cap,cur,h1,_⟩⟩:=h
 ·subst h2;exact ⟨none,0,h1⟩
 ·exact ⟨_,_,h1⟩
theorem Jf {base e size n:Nat} {xs:List Value} {v:Value} {w w1:World} (s:w.ownsRow base e size v n xs) (hb:∀ g,base<=g->g<w.heap.size->w1.heap[g]?=w.heap[g]?):w1.ownsRow base e size v n xs:=by
 obtain ⟨g1,⟨g2,g3⟩ | ⟨g,cap,cur,g2,g3,g4,g5⟩⟩:=s
 ·exact ⟨g1,.inl ⟨g2,g3⟩⟩
 ·exact ⟨g1,.inr ⟨g,cap,cur,g2,g3,(hb g g3 (Array.getElem?_eq_some_iff.1 g4).1).trans g4,g5⟩⟩
theorem Zdk {base e size n:Nat} {v:Value} {xs:List Value} {w w':World} (s:w.ownsRow base e size v n xs) (hB:base<=w.heap.size) (S:w.grownBy w' v.ownBlock):Below base w w' :=
 (Below.refl base w).grown S hB fun q h=>(s.lt q h).1
theorem Zeq {base L e size n:Nat} {v:Value} {xs:List Value} {w:World} (s:w.ownsRow base e size v n xs) (hb:L<=base):w.ownsRow L e size v n xs:=by
 obtain ⟨g1,⟨g2,g3⟩ | ⟨g,cap,cur,g2,g3,g4,g5⟩⟩:=s
 ·exact ⟨g1,.inl ⟨g2,g3⟩⟩
 ·exact ⟨g1,.inr ⟨g,cap,cur,g2,by omega,g4,g5⟩⟩
theorem Tryz.info9  : (Tryz.prog.info? 9).map (fun i=>(i.zero,i.size,i.bytes))=some (some (.string ⟨#[]⟩),1,16):=by kernel_rfl
theorem Zjw (ks:List ByteArray) (R:ks.length<=100000000) (a:Option Addr) (cap G:Nat) (w:World) (k:Boxed w G 44 (.slice a ks.length cap)) (r:ks.length<=cap) (t:Zca w.heap.size w a ks) :
  Calls Tryz.prog 217 #[.slice none 0 0,.func (.func 176) #[] #[.pointer (some ⟨G,0,none⟩)]] w fun e w'=>∃ v,e=.returned v/\w'.ownsRow w.heap.size 9 1 v ks.length (ks.map Value.string)/\Below w.heap.size w w':=by
 refine (callsIn_wide (n:=0)).1 ?_
 obtain ⟨F,hF⟩:∃ F,F=Fence.wide:=⟨_,rfl⟩
 rw [<- hF]
 have hd:F.depth=none:=by rw [hF];rfl
 have M:F.round=none:=by rw [hF];rfl
 have E:∀ f,F.fn f:=by rw [hF];exact fun _=>trivial
 clear hF
 have HT:=Zb t
 have b5:=Zb k
 have c6:=k.lt
 clear t k
 refine callsIn_of_wp_marks Tryz.func217 rfl (E _) ?_ M
 simp only [Tryz.ntmps217,List.size_toArray,List.length_cons,List.length_nil,Nat.reduceAdd,Nat.reduceSub,Array.replicate_succ,Array.replicate_zero,List.push_toArray,List.append_toArray,List.nil_append,List.cons_append]
 gi_wp2_with fail
 refine Zl7 M hd (gf:=176) (lb:=#[.pointer (some ⟨G,0,none⟩)]) rfl (E _) (enters_of Tryz.func176 (by kernel_rfl) rfl) ?_
 intro fn e4
 generalize c:Loop.mk _ _ _ _ _ _ _ _=d
 simp only [World.size_alloc]
 generalize C:World.alloc _ (Obj.loop d)=W0
 have e8:W0.heap.size=w.heap.size+3:=by rw [<- C];simp
 have b0:W0.heap[w.heap.size]?=some (.cells #[.slice none 0 0] 44 (0,0)):=by rw [<- C];simp only [Jv,World.size_alloc];repeat (first | rw [if_pos trivial] | rw [if_pos (by omega)] | rw [if_neg (by omega)])
 have b1:W0.heap[w.heap.size+1]?=some (.deferred (some [])):=by rw [<- C];simp only [Jv,World.size_alloc];repeat (first | rw [if_pos trivial] | rw [if_pos (by omega)] | rw [if_neg (by omega)])
 have b2:W0.heap[w.heap.size+2]?=some (.loop d):=by rw [<- C];simp only [Jv,World.size_alloc];repeat (first | rw [if_pos trivial] | rw [if_pos (by omega)] | rw [if_neg (by omega)])
 have H:Below w.heap.size w W0:=by
  rw [<- C]
  exact (((Below.refl _ _).alloc (Nat.le_refl _) _).alloc (by simp) _).alloc (by simp;omega) _
 have a4:Hid (ApJ w d [] W0):=⟨by omega,b2,b1,⟨_,b0,World.ownsRow_nil _ _ _ _⟩,H⟩
 have a9:Boxed W0 G 44 (.slice a ks.length cap):=(H.block G c6).trans b5.out
 have X:=Zb a9
 have b8:=Zb (HT.out.below H)
 clear C b0 b1 b2 H a9 HT b5
 have b9:Hid (∀ m pre x W,ApJ w d pre W->pre++[x] <+: ks->YieldAt F m Tryz.prog (w.heap.size+2) #[.string x] W fun e Q=>e=.returned (.bool true)/\ApJ w d (pre++[x]) Q/\Below w.heap.size W Q):=by
  intro m pre x W hJ b6
  have f0:pre.length+1<=ks.length:=by have:=b6.length_le;simpa using this
  have I:=Zb hJ
  have ea:=congrArg Loop.assign c
  have eb:=congrArg Loop.body c
  have et:=congrArg Loop.tmps c
  have ep:=congrArg Loop.params c
  have es:=congrArg Loop.state c
  have d6:Zl6 d=d:=by rw [<- c];rfl
  dsimp only at ea eb et ep es
  clear c
  refine Zfp (E _) ea eb et ep hJ.loop es.symm (by rw [<- ep];rfl) ?_
  clear ea eb et ep es hJ
  obtain ⟨i0,hi,e2,e0,c5⟩:=info_parts Tryz.info9
  obtain ⟨v,P,o⟩:=I.out.box
  obtain ⟨ua,uc,rfl⟩:=Jn o
  have e1:=I.out.room
  have a7:=Zb P
  have Y:=Zb o
  clear P o
  gi_wp2_with fail
  refine ⟨I.out.loop,?_⟩
  generalize K:World.putObj _ _ _=W2
  have a2:W2.heap[w.heap.size+2]?=some (.loop (Zej d)):=by rw [<- K];exact World.putObj_heap_same (by omega)
  have ak:∀ i,i≠w.heap.size+2->W2.heap[i]?=W.heap[i]?:=fun i hi=>by rw [<- K];exact World.putObj_heap_other hi
  have f2:w.heap.size+3<=W2.heap.size:=by rw [<- K];simp;omega
  have a6:Below w.heap.size W W2:=by rw [<- K];exact (But.putObj _ _).below (Below.refl _ _) (by omega)
  clear K
  have N:Boxed W2 w.heap.size 44 (.slice ua pre.length uc):=(ak _ (by omega)).trans a7.out
  have O:Hid (W2.ownsRow (w.heap.size+3) 9 1 (.slice ua pre.length uc) pre.length (pre.map Value.string)):=Jf Y.out fun g S _=>ak g (by omega)
  have cb:=N.cell
  have b3:=Zb N
  have d8:=Zb a2
  have c3:=Zb ak
  have b7:=Zb a6
  clear N a2 ak a6 Y a7
  gi_wp2_with (gi_at_builtin;refine wpListIn_append_own _ rfl _ _ 44 rfl (w.heap.size+3) 9 i0 (.string ⟨#[]⟩) 1 16 Tryz.underlying44 hi e2 e0 c5 rfl (by decide) _ _ _ rfl (Jf O.out fun g _ S=>Below.heap_alloc _ _ _ S) ⟨W2.heap.size,0,none⟩ 1 1 [.string x] rfl rfl ?d1 ?d2 ?d3 ?d4 ?d5 ?_)
  case d1 =>
   intro j u hj
   have a8:(⟨W2.heap.size,0,none⟩:Addr).add j=⟨W2.heap.size,j,none⟩:=by unfold Addr.add;split<;>simp_all
   rw [a8]
   refine Zaj _ _ _ _ _ ?_
   simpa using hj
  case d2=>intro u hu;simp only [List.mem_cons,List.not_mem_nil,or_false] at hu;subst hu;rfl
  case d3=>unfold maxLen;omega
  case d4=>omega
  case d5=>first | omega | (simp;omega)
  intro v3 w3 z B _
  obtain ⟨ub,ud,rfl⟩:=Jn z
  have y:Below (w.heap.size+3) W2 w3:=((Below.refl _ W2).alloc (by omega) _).trans (Zdk (Jf O.out fun g _ S=>Below.heap_alloc _ _ _ S) (by simp;omega) B)
  have A:Boxed w3 w.heap.size 44 (.slice ua pre.length uc):=(y.block _ (by omega)).trans b3.out
  have b4:=Zb A
  have e3:=Zb z
  have D:=Zb y
  have e7:=y.size
  have f1:=A.cell
  have e9:=A.frozen
  clear z B y cb A
  gi_wp2_with fail
  have c9:(w3.setCell ⟨w.heap.size,0,none⟩ (.slice ub (pre.length+1) ud)).heap[w.heap.size+2]?=some (.loop (Zej d)):=(Below.heap_setCell _ _ _ _ (by show w.heap.size+2≠w.heap.size;omega)).trans ((D.out.block _ (by omega)).trans d8.out)
  refine ⟨c9,rfl,⟨?_,?_,?_,⟨.slice ub (pre.length+1) ud,?_,?_⟩,?_⟩,?_⟩
  ·simp [World.setCell];omega
  ·rw [d6];exact World.putObj_heap_same (by simp [World.setCell];omega)
  ·rw [World.putObj_heap_other (by omega)]
   exact (Below.heap_setCell _ _ _ _ (by show w.heap.size+1≠w.heap.size;omega)).trans ((D.out.block _ (by omega)).trans ((c3.out _ (by omega)).trans I.out.dfr))
  ·show _=_
   rw [World.putObj_heap_other (by omega)]
   exact b4.out.set _
  ·have e:(pre++[x]).map Value.string=pre.map Value.string++[Value.string x]:=by simp
   rw [e,List.length_append]
   exact Jf e3.out fun g S _=>by
    rw [World.putObj_heap_other (by omega)]
    exact Below.heap_setCell _ _ _ _ (by show g≠w.heap.size;omega)
  ·exact (But.putObj _ _).below ((I.out.below.trans (b7.out.trans (D.out.mono (by omega)))).setCell (by show w.heap.size<=w.heap.size;omega) _) (by omega)
  ·exact (But.putObj _ _).below ((b7.out.trans (D.out.mono (by omega))).setCell (by show w.heap.size<=w.heap.size;omega) _) (by omega)
 have HV:=Zb (Zna hd M E (l:=w.heap.size+2) (n₀:=w.heap.size) ks (by omega) a cap G (ApJ w d) b9.out W0 X.out.cell r b8.out a4.out (0 - 1))
 clear b9 a4 X b8
 refine HV.out.mono ?_
 rintro e W ⟨⟨v,rfl⟩,hJ⟩
 have hp:d.pending=none:=by rw [<- c]
 have d7:d.state≠.busy:=by rw [<- c];simp
 have I:=Zb hJ
 clear c hJ HV
 refine ⟨d,I.out.loop,d7,?_⟩
 simp only [hp]
 generalize T:World.putObj _ _ _=W5
 have e1:=I.out.room
 have a3:Hid (∀ i,i≠w.heap.size+2->W5.heap[i]?=W.heap[i]?):=fun i hi=>by rw [<- T];exact World.putObj_heap_other hi
 have c7:Hid (Below w.heap.size w W5):=by rw [<- T];exact (But.putObj _ _).below I.out.below (by omega)
 have e5:W5.heap.size=W.heap.size:=by rw [<- T];simp
 clear T
 obtain ⟨v5,P,o⟩:=I.out.box
 have cb:=(show Boxed W5 w.heap.size 44 v5 from (a3.out _ (by omega)).trans P).cell
 have c8:Hid (W5.heap[w.heap.size+1]?=some (.deferred (some []))):=(a3.out _ (by omega)).trans I.out.dfr
 have c1:Hid (W5.ownsRow (w.heap.size+3) 9 1 v5 ks.length (ks.map Value.string)):=Jf o fun g S _=>a3.out g (by omega)
 clear P o
 gi_wp2_with fail
 have c2:Below w.heap.size w (W5.putObj (w.heap.size+1) (.deferred none)):=(But.putObj _ _).below c7.out (by omega)
 show LeavesInM _ _ _ _ _ _ [_] .returning _
 refine ⟨by simp,.inl ⟨_,_,rfl,run_takeDeferred c8.out,?_⟩⟩
 refine ⟨v5,?_,v5,rfl,?_,c2⟩
 ·simp [results,Tryz.results217,go_sem]
 ·exact Zeq (Jf c1.out fun g S _=>World.putObj_heap_other (by omega)) (by omega)
theorem Znb (ks:List ByteArray) (R:ks.length<=100000000) (a:Option Addr) (cap G:Nat) (w:World) (k:Boxed w G 44 (.slice a ks.length cap)) (r:ks.length<=cap) (t:Zca w.heap.size w a ks) :
  Calls Tryz.prog 174 #[.func (.func 176) #[] #[.pointer (some ⟨G,0,none⟩)]] w fun e w'=>∃ v,e=.returned v/\w'.ownsRow w.heap.size 9 1 v ks.length (ks.map Value.string)/\Below w.heap.size w w':=by
 have HC:=Zb (Zjw ks R a cap G w k r t)
 clear k r t
 go_enter Tryz.func174,Tryz.ntmps174
 go_wp2_with fail
 refine HC.out.mono ?_
 rintro e w2 ⟨v,rfl,ho,hb⟩
 have HO:=Zb ho
 have HB:=Zb hb
 clear ho hb
 go_wp2_with fail
 go_ret
 exact ⟨v,rfl,HO.out,HB.out⟩
end
section
open Go.RowKit Go.Shelf Go.Sort
attribute [local go_sem] Oper.semAt_some
def Zmb (ks:List ByteArray):List (List UInt8):=(ks.map fun b=>b.data.toList).mergeSort fun x y=>decide (x<=y)
def Zd4 (ks:List ByteArray):List ByteArray:=(Zmb ks).map fun l=>⟨l.toArray⟩
theorem Zxk (ks:List ByteArray):(Zmb ks).length=ks.length:=by simp [Zmb]
theorem Zoa (ks:List ByteArray):(Zd4 ks).length=ks.length:=by simp [Zd4,Zxk]
theorem Jay (ks:List ByteArray):ks.map Value.string=(ks.map fun b=>b.data.toList).map encStr:=by simp [encStr,Function.comp_def]
theorem Zxl (ks:List ByteArray):(Zmb ks).map encStr=(Zd4 ks).map Value.string:=by simp [Zd4,encStr,Function.comp_def]
theorem Zpt (ks:List ByteArray) (s:ks.length<=100000000) (a:Option Addr) (cap Bs:Nat) (w:World) (P:Boxed w Bs 44 (.slice a ks.length cap)) (d:ks.length<=cap) (r:Zca w.heap.size w a ks) :
  Calls Tryz.prog 136 #[.func (.func 176) #[] #[.pointer (some ⟨Bs,0,none⟩)]] w fun e w'=>∃ v,e=.returned v/\w'.ownsRow w.heap.size 9 1 v ks.length ((Zd4 ks).map Value.string)/\RowKit.Below w.heap.size w w':=by
 have HC:=Zb (Znb ks s a cap Bs w P d r)
 clear P d r
 go_enter Tryz.func136,Tryz.ntmps136
 go_wp2_with fail
 refine HC.out.mono ?_
 rintro e k ⟨v,rfl,B,hb⟩
 have HO:=Zb B
 have HB:=Zb hb
 clear HC hb
 rcases B.2 with ⟨rfl,hz⟩ | ⟨o,X,cur,rfl,c,m,r1,r2,r3,r4⟩
 ·have e0:ks=[]:=List.eq_nil_of_length_eq_zero hz
  have z:=Zb (Tryz.slices_Sort_string_none none 0 k)
  clear B hz
  go_wp2_with fail
  refine z.out.mono ?_
  rintro e w3 ⟨rfl,f⟩
  rw [f]
  clear f
  go_wp2_with fail
  go_ret
  refine ⟨_,rfl,?_,HB.out⟩
  subst e0
  simpa [Zd4,Zmb] using HO.out
 ·have Y:(ks.map fun b=>b.data.toList).length=ks.length:=by simp
  have hH:Holds encStr k o 0 (ks.map fun b=>b.data.toList).toArray:=holds_of_block m (by rw [Y,<- Jay];simpa using r4)
  have u:o<k.heap.size:=(Array.getElem?_eq_some_iff.1 m).1
  have T:(ks.map fun b=>b.data.toList).length<4611686018427387904:=by rw [Y];omega
  have z:=Zb (Tryz.slices_Sort_string o 0 X (ks.map fun b=>b.data.toList) k hH u T)
  rw [Y] at z
  have S:=Zb m
  have W:=Zb (And.intro r1 (And.intro r2 r3))
  have K:=Zb c
  clear B m r1 r2 r3 r4 hH T Y c
  go_wp2_with fail
  refine z.out.mono ?_
  rintro e w3 ⟨rfl,nn,os,f⟩
  have a1:Hid (w3.ownsRow w.heap.size 9 1 (.slice (some ⟨o,0,none⟩) ks.length X) ks.length ((Zmb ks).map encStr)):=by
   show World.ownsRow _ _ _ _ _ _ _
   rw [f]
   have h:=ownsRow_sorted (w:=k) (base:=w.heap.size) (g:=o) (cap:=X) (n:=nn) (e:=9) (os:=os) (cur:=cur) (ss:=ks.map fun b=>b.data.toList) (ts:=Zmb ks) (by simp [Zmb]) K.out S.out (by simpa using W.out.1) W.out.2.1 W.out.2.2
   simp only [List.length_map] at h
   exact h
  have A:Hid (RowKit.Below w.heap.size w w3):=by
   rw [f]
   exact HB.out.grown (grownBy_sorted _) HB.out.size (fun j hj=>by cases hj;exact K.out)
  clear f S W HO HB z
  go_wp2_with fail
  go_ret
  refine ⟨_,rfl,?_,A.out⟩
  rw [<- Zxl]
  exact a1.out
theorem Zob (ks:List ByteArray) (s:ks.length<=100000000) (a:Option Addr) (cap:Nat) (w:World) (d:ks.length<=cap) (r:Zca w.heap.size w a ks) :
  Calls Tryz.prog 89 #[.slice a ks.length cap] w fun e w'=>∃ g,e=.returned (.func (.func 138) #[] #[.pointer (some ⟨g,0,none⟩)])/\w.heap.size<=g/\Jd4 w' w.heap.size g w' (Zd4 ks)/\g+1=w'.heap.size/\RowKit.Below w.heap.size w w':=by
 have HV:=Zb (Zqf a ks.length cap w)
 have t:RowKit.Below w.heap.size w (w.alloc (.cells #[.slice a ks.length cap] 44)):=(RowKit.Below.refl _ _).alloc (Nat.le_refl _) _
 have z:=Zb (Zpt ks s a cap w.heap.size (w.alloc (.cells #[.slice a ks.length cap] 44)) (World.alloc_heap_new _ _) d ((r.below t).mono t.size))
 have D:=Zb t
 have C:=Zoa ks
 obtain ⟨n,hn⟩:∃ n,ks.length=n:=⟨_,rfl⟩
 rw [hn] at HV z C D |-
 have HN:=Zb hn
 have R:=Zb C
 clear r t hn C s d
 go_enter Tryz.func89,Tryz.ntmps89
 go_wp2_with fail
 refine HV.out.mono ?_
 rintro e w1 ⟨rfl,E⟩
 have I:Hid (Calls Tryz.prog 136 #[.func (.func 176) #[] #[.pointer (some ⟨w.heap.size,0,none⟩)]] w1 fun e w'=>∃ v,e=.returned v/\w'.ownsRow w1.heap.size 9 1 v n ((Zd4 ks).map Value.string)/\RowKit.Below w1.heap.size w1 w'):=by rw [E];exact z.out
 have L:Hid (RowKit.Below w.heap.size w w1):=by rw [E];exact D.out
 clear E z D HV
 go_wp2_with fail
 refine I.out.mono ?_
 rintro e k ⟨v,rfl,B,M⟩
 have Q:=Zb (Za L.out M)
 obtain ⟨V,N,rfl⟩:=Jn B
 have U:=Zb B
 clear B M I
 go_upto_region 2 with fail
 obtain ⟨O,q⟩:∃ O,k.alloc (.cells #[.slice V n N] 44)=O:=⟨_,rfl⟩
 rw [q]
 have A:Hid (RowKit.Below k.heap.size k O):=by rw [<- q];exact (RowKit.Below.refl _ _).alloc (Nat.le_refl _) _
 have G:Hid (Rec O k.heap.size #[.slice V n N] 44):=by rw [<- q];exact Zl k #[.slice V n N] 44
 have H:k.heap.size+1=O.heap.size:=by rw [<- q];simp
 have a0:=Zb H
 clear q H
 go_wp2_with fail
 go_ret
 refine ⟨_,rfl,Q.out.size,⟨?_,rfl,fun _ _=>rfl,RowKit.Below.refl _ _⟩,a0.out,Za Q.out A.out⟩
 rcases U.out.2 with ⟨h1,h2⟩ | ⟨o,X,cur,h1,c,m,r1,r2,r3,r4⟩
 ·have e0:Zd4 ks=[]:=List.eq_nil_of_length_eq_zero (by rw [R.out];exact h2)
  injection h1 with e1 e2 e3
  rw [e0]
  subst e2
  exact ⟨V,N,G.out,.inl rfl,Nat.zero_le _,by rw [e3];decide⟩
 ·have a2:=h1
  injection h1 with e1 e2 e3
  subst e1 e3
  rw [R.out]
  have u:o<k.heap.size:=(Array.getElem?_eq_some_iff.1 m).1
  refine ⟨_,N,G.out,.inr ⟨o,0,rfl,⟨Nat.le_trans L.out.size c,u⟩,fun i x hx=>?_⟩,r1,by unfold maxLen at r2;omega⟩
  have hc:=U.out.cells (g:=o) rfl i (.string x) (by rw [List.getElem?_map,hx];rfl)
  have F:(⟨o,0,none⟩:Addr).add i=⟨o,i,none⟩:=by unfold Addr.add;split<;>simp_all
  rw [F] at hc
  rw [Nat.zero_add]
  exact (A.out.cell (p:=⟨o,i,none⟩) u).trans hc
end
