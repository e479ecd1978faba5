/- What was counted, in order. Maps by numbers: what they hold, and what is done to them. What was counted, in order. -/
import Derived.Test.YthfilnflgahcjaaGreatDoorJoin6
import Derived.Maps.RangeRun
import Derived.Test.YthfilnflgahcjaaGreatDoorJoin8
import Derived.Test.YthfilnflgahcjaaGreatDoorJoin1
import Derived.Maps.Keyed
import Derived.MapKept
namespace Go.Proofs.YthfilnflgahcjaaGreatDoor
open Go.RowKit Go.Shelf Go.Maps
set_option linter.all false
attribute [local go_sem] Oper.semAt_some
set_option maxHeartbeats 1000000 in
theorem Jds (s:ByteArray) (q z:Int) (w:World):Calls Tryz.prog 87 #[.agg #[.string s,.int .i64 q],.int .i64 z] w fun e w'=>e=.returned (.agg #[.string s,.int .i64 z])/\Below w.heap.size w w':=by
 go_enter Tryz.func87,Tryz.ntmps87
 go_wp2
 refine bodyPost_ret (by simp [results,Tryz.results87,go_sem]) rfl ⟨rfl,((Below.refl _ _).alloc (Nat.le_refl _) _).alloc (by simp) _⟩
structure Ztl (w:World) (f:Array MapEntry) (d b r:Nat) (wr:World) (v:Value) (seen:Array Nat) (c0:Nat) (done:List MapEntry) (D:List ((ByteArray × Int) × Int)):Prop where
 it:wr.heap[r]?=some (.mapIter (some b) d seen c0)
 cl:d<=c0
 bw:Below w.heap.size w wr
 row:Jb 62 2 Za0 (r+1) wr v (D.map (fun p:(ByteArray × Int) × Int=>(p.1.1,p.2)))
 dn:D.map (fun p=>(Zhy p.1,Value.int .i64 p.2))=done.map (fun e=>(e.key,e.val))
 nd:done.Nodup
 sub:∀ x ∈ done,x ∈ f.toList
 has:∀ x ∈ f.toList,seen.contains x.born=true↔x ∈ done
def Zro (le:ByteArray × Int->ByteArray × Int->Prop) (most:Nat):Prop:=∀ (W:World) (v:Value) (base:Nat) (xs:List (ByteArray × Int)),base<=W.heap.size->xs.length<=most->Jb 62 2 Za0 base W v xs->Calls Tryz.prog 123 #[v,.func (.func 89) #[] #[]] W fun e w'=>e=.returned (.tuple #[])/\∃ ys,ys.Perm xs/\ys.Pairwise le/\Jb 62 2 Za0 base w' v ys/\Below base W w'
set_option maxRecDepth 100000 in
set_option maxHeartbeats 8000000 in
theorem Zu9 {le:ByteArray × Int->ByteArray × Int->Prop} {most:Nat} (S:Zro le most) (b2:most<=900000) {w:World} {b:Nat} {cs:List ((ByteArray × Int) × Int)} (h:MC Zhy okL w b cs) (hl:cs.length<=most) :
  Calls Tryz.prog 88 #[.map (some b),.func (.func 87) #[] #[],.func (.func 89) #[] #[]] w fun e w'=>∃ v L,e=.returned v/\L.Perm (cs.map (fun p:(ByteArray × Int) × Int=>(p.1.1,p.2)))/\L.Pairwise le/\Jb 62 2 Za0 w.heap.size w' v L/\Below w.heap.size w w':=by
 have T:=MG.lt h
 obtain ⟨f,d,hb,t,a8,I⟩:=h
 have hn:f.size=cs.length:=by have:=congrArg List.length t;simpa using this
 have a3:Hid (∀ x ∈ f.toList,∃ p ∈ cs,x.key=Zhy p.1/\x.val=.int .i64 p.2):=fun x A=>by
  have n:(x.key,x.val) ∈ f.toList.map (fun e=>(e.key,e.val)):=List.mem_map.2 ⟨x,A,rfl⟩
  rw [t] at n
  obtain ⟨q,hq,e⟩:=List.mem_map.1 n
  obtain ⟨p,hp,rfl⟩:=List.mem_map.1 hq
  obtain ⟨e1,e2⟩:=Prod.mk.inj e
  exact ⟨p,hp,e1.symm,e2.symm⟩
 have b4:Hid (f.toList.map (fun e=>(e.key,e.val))=cs.map (fun p=>(Zhy p.1,Value.int .i64 p.2))):=by
  show _=_
  rw [t,List.map_map];rfl
 have b0:Hid (f.toList.Nodup):=by
  have:=I.2.1
  rw [List.nodup_iff_pairwise_ne] at *
  exact (List.pairwise_map.1 this).imp fun h e=>h (by rw [e])
 have a0:Hid (∀ x ∈ f.toList,∀ y ∈ f.toList,x.born=y.born->x=y):=fun x A y G e=>by
  obtain ⟨i,hi⟩:=List.getElem?_of_mem A
  obtain ⟨j,hj⟩:=List.getElem?_of_mem G
  have:=(List.getElem?_inj (l:=f.toList.map (·.born)) (by simpa using (List.getElem?_eq_some_iff.1 hi).1) I.2.1 (i:=i) (j:=j)).1 (by rw [List.getElem?_map,List.getElem?_map,hi,hj,Option.map_some,Option.map_some,e])
  subst this
  rw [hi] at hj
  exact Option.some.inj hj
 have a2:Hid (∀ done:List MapEntry,done.Nodup->(∀ x ∈ done,x ∈ f.toList)->done.length<=most):=fun done n h2=>by
  have:=Zdi n h2
  simp only [Array.length_toList] at this
  omega
 have a4:=Za I
 have HB:=Za hb
 have b1:=Za hl
 clear t a8 I hn hb hl
 go_enter Tryz.func88,Tryz.ntmps88
 have b8:=run_range_map (P:=Tryz.prog) w 139 62 2 b f d (by kernel_rfl) HB.out
 go_wp2_with fail
 go_loopw [7] (fun v wr=>∃ seen c0 done D,Ztl w f d b w.heap.size wr v seen c0 done D) (fun _ wr=>wr.rangeLeft b w.heap.size)
 case atStart =>
  exact ⟨#[],d,[],[],World.alloc_heap_new _ _,Nat.le_refl _,(Below.refl _ _).alloc (Nat.le_refl _) _,Jo _ _ _ _ _,rfl,List.nodup_nil,fun x A=>by simp at A,fun x A=>by simp⟩
 case round =>
  obtain ⟨seen,c0,done,D,m⟩:=hrel
  have HC:=Za m
  have k:wr.heap[b]?=some (.map f d):=(m.bw.block b T).trans HB.out
  rcases run_next_at (P:=Tryz.prog) wr 0 w.heap.size b d c0 seen f d m.it k a4.out.1 m.cl with ⟨h0,a1⟩ | ⟨x,A,w1,B,a1⟩
  ·have HF:Hid ((D.map (fun p:(ByteArray × Int) × Int=>(p.1.1,p.2))).Perm (cs.map (fun p:(ByteArray × Int) × Int=>(p.1.1,p.2)))):=by
    have hp:done.Perm f.toList:=(List.perm_ext_iff_of_nodup m.nd b0.out).2 fun x=>⟨m.sub x,fun A=>(m.has x A).1 (all_seen f seen h0 x A)⟩
    have n:=hp.map (fun e=>(e.key,e.val))
    rw [<- m.dn,b4.out] at n
    exact (Zee Zs1 n).map _
   have R:(D.map (fun p:(ByteArray × Int) × Int=>(p.1.1,p.2))).length<=most:=by rw [HF.out.length_eq,List.length_map];exact b1.out
   have HS:=Za (S wr _ (w.heap.size+1) _ (by have:=(Array.getElem?_eq_some_iff.1 m.it).1;omega) R m.row)
   have b3:=Za m.bw
   clear m HC k h0 R
   go_wp2_with (go_at_call 123;refine HS.out.mono ?_;rintro e W3 ⟨rfl,ys,y1,y2,y3,y4⟩;have HY:=Za (And.intro y1 (And.intro y2 (And.intro y3 y4)));clear y1 y2 y3 y4)
   go_ret
   obtain ⟨y1,y2,y3,y4⟩:=HY.out
   exact ⟨_,ys,rfl,y1.trans HF.out,y2,y3.base (by omega),b3.out.trans (y4.mono (by omega))⟩
  ·obtain ⟨H,a7⟩:=mem_left A
   obtain ⟨⟨⟨s,q⟩,z⟩,b6,ek,ev⟩:=a3.out x H
   simp only [Zhy] at ek ev
   obtain ⟨U,hU⟩:∃ V,Go.ChangeMaps.setBlock w1 w.heap.size (.mapIter (some b) d (seen.push x.born) d)=V:=⟨_,rfl⟩
   rw [hU,ek,ev] at a1
   have O:w1.heap[w.heap.size]?=some (.mapIter (some b) d seen c0):=by rcases B with rfl | rfl<;>exact m.it
   have C:=MapKept.heap_set (o':=.mapIter (some b) d (seen.push x.born) d) O
   have X:∀ q,q≠w.heap.size->U.heap[q]?=wr.heap[q]?:=fun q hq=>by
    rw [<- hU]
    have:w1.heap[q]?=wr.heap[q]?:=by rcases B with rfl | rfl<;>rfl
    exact (C.2 q hq).trans this
   have a6:U.heap.size=wr.heap.size:=by
    rw [<- hU]
    have:w1.heap.size=wr.heap.size:=by rcases B with rfl | rfl<;>rfl
    simp [Go.ChangeMaps.setBlock,this]
   have M:U.heap[w.heap.size]?=some (.mapIter (some b) d (seen.push x.born) d):=by rw [<- hU];exact C.1
   have K:U.os=wr.os/\U.tape=wr.tape/\U.output=wr.output:=by
    rw [<- hU]
    rcases B with rfl | rfl<;>exact ⟨rfl,rfl,rfl⟩
   have Y:Below w.heap.size w U:=⟨K.1.trans m.bw.os,K.2.1.trans m.bw.tape,K.2.2.trans m.bw.output,by rw [a6];exact m.bw.size,fun q hq=>(X q (by omega)).trans (m.bw.block q hq)⟩
   have b7:=run_entry_at (P:=Tryz.prog) U w.heap.size b d seen f d x M ((Y.block b T).trans HB.out) H a4.out.2.1
   rw [ek,ev] at b7
   have a5:Jb 62 2 Za0 (w.heap.size+1) U _ (D.map (fun p:(ByteArray × Int) × Int=>(p.1.1,p.2))):=m.row.keep fun g hg _=>X g (by omega)
   have E:(leftOf f (seen.push x.born)).size<(leftOf f seen).size:=left_shrinks f seen x A
   have o:wr.rangeLeft b w.heap.size=(leftOf f seen).size:=by simp only [World.rangeLeft,k,m.it]
   have Q:w.heap.size<U.heap.size:=(Array.getElem?_eq_some_iff.1 M).1
   have a9:D.length<=most:=by
    have n:=congrArg List.length m.dn
    simp only [List.length_map] at n
    rw [n];exact a2.out done m.nd m.sub
   have HA:Hid (Below U.heap.size U (U.alloc (.cells #[.string s,.int .i64 q] 62))):=(Below.refl _ _).alloc (Nat.le_refl _) _
   have HU:=Za (And.intro M (And.intro Y (And.intro a5 (And.intro Q a9))))
   have HX:=Za (And.intro H (And.intro a7 (And.intro ek ev)))
   have HM:=Za (And.intro E o)
   clear m k hU O C X a6 M K Y H a7 ek ev A B E o b6 a5 Q a9
   go_wp2_with (first
    | (go_at_call 87;refine (Jds s q z _).mono ?_;rintro e W2 ⟨rfl,k⟩
       obtain ⟨v6,W6,p1,p2,p3,p4⟩:=Jd (ty:=29) (c:=1) (bl:=W2.heap.size) (off:=0) (x:=(s,z)) Ztr (fun x=>rfl) Zf9 (((HU.out.2.2.1.below HA.out).below k).below ((Below.refl _ _).alloc (Nat.le_refl _) (.cells #[.string s,.int .i64 z] 62))) (fun jj u hu=>by
        rw [Nat.zero_add]
        exact Zh _ _ _ _ _ (by simpa [Za0] using hu)) (by rw [List.length_map];have:=HU.out.2.2.2.2;omega) (by have n:=HU.out.2.2.2.1;have h2:=HA.out.size;have h3:=k.size;simp;omega)
       have HP:=Za (And.intro p2 (And.intro p3 k))
       clear p2 p3 p4 k)
    | (at_builtin;refine Lib.wpList_append_run _ rfl _ _ _ _ rfl _ _ rfl rfl _ _ p1 ?_))
   have F:Hid (Ztl w f d b w.heap.size W6 v6 (seen.push x.born) d (done++[x]) (D++[((s,q),z)])):=by
    obtain ⟨p2,p3,k⟩:=HP.out
    obtain ⟨u1,u2,u3,u4,u5⟩:=HU.out
    have N:Below (w.heap.size+1) U W6:=(((HA.out.mono (by omega)).trans (k.mono (by have:=HA.out.size;omega))).trans (((Below.refl _ _).alloc (Nat.le_refl _) _:Below W2.heap.size W2 (W2.alloc (.cells #[.string s,.int .i64 z] 62))).mono (by have:=HA.out.size;have:=k.size;omega))).trans p3
    refine ⟨(N.block _ (by omega)).trans u1,Nat.le_refl _,u2.trans (N.mono (by omega)),?_,?_,?_,?_,?_⟩
    ·rw [List.map_append];exact p2
    ·rw [List.map_append,List.map_append,HC.out.dn]
     simp [Zhy,HX.out.2.2.1,HX.out.2.2.2]
    ·refine List.nodup_append.2 ⟨HC.out.nd,by simp,fun a ha c hc=>?_⟩
     simp only [List.mem_singleton] at hc
     subst hc
     intro e
     subst e
     have:=(HC.out.has _ HX.out.1).2 ha
     rw [HX.out.2.1] at this
     cases this
    ·intro y G
     rcases List.mem_append.1 G with G | G
     ·exact HC.out.sub y G
     ·rw [List.mem_singleton.1 G];exact HX.out.1
    ·intro y G
     rw [contains_push]
     simp only [Bool.or_eq_true,HC.out.has y G,beq_iff_eq,List.mem_append,List.mem_singleton]
     constructor
     ·rintro (n | n)
      ·exact .inl n
      ·exact .inr (a0.out y G x HX.out.1 n)
     ·rintro (n | n)
      ·exact .inl n
      ·exact .inr (by rw [n])
   go_roundw
   case rel=>exact ⟨_,_,_,_,F.out⟩
   case measure =>
    have n:W6.rangeLeft b w.heap.size=(leftOf f (seen.push x.born)).size:=by
     have b5:W6.heap[b]?=some (.map f d):=(F.out.bw.block b T).trans HB.out
     simp only [World.rangeLeft,b5,F.out.it]
    rw [n,HM.out.2]
    exact HM.out.1
end Go.Proofs.YthfilnflgahcjaaGreatDoor

namespace Go.Proofs.YthfilnflgahcjaaGreatDoor
open Go.RowKit Go.Shelf Go.Maps
set_option linter.all false
def I64 (k:Int):Prop:=(Lit.int .i64 k).wf=true
def MI (w:World) (b:Nat) (es:List (Int × Value)):Prop:=∃ f a,w.heap[b]?=some (.map f a)/\f.toList.map (fun e=>(e.key,e.val))=es.map (fun p=>(Value.int .i64 p.1,p.2))/\(∀ p ∈ es,I64 p.1)/\MapKept.Stamped f a
theorem MI.block {w w':World} {b:Nat} {es:List (Int × Value)} (h:MI w b es) (hb:w'.heap[b]?=w.heap[b]?):MI w' b es:=by
 obtain ⟨f,c,n,m⟩:=h
 exact ⟨f,c,hb.trans n,m⟩
theorem MI.lt {w:World} {b:Nat} {es:List (Int × Value)} (h:MI w b es):b<w.heap.size:=by
 obtain ⟨f,c,n,_⟩:=h
 exact (Array.getElem?_eq_some_iff.1 n).1
theorem MI.below {B:Nat} {w w':World} {b:Nat} {es:List (Int × Value)} (h:MI w b es) (hb:Below B w w') (hB:w.heap.size<=B):MI w' b es:=h.block (hb.block b (Nat.lt_of_lt_of_le h.lt hB))
theorem Zwh (w:World):MI (w.alloc (.map #[] 0)) w.heap.size []:=⟨#[],0,World.alloc_heap_new _ _,rfl,by simp,MapKept.stamped_empty _⟩
theorem Zq9 {f:Array MapEntry} {es:List (Int × Value)} (h:f.toList.map (fun e=>(e.key,e.val))=es.map (fun p=>(Value.int .i64 p.1,p.2))) (F:∀ p ∈ es,I64 p.1):∀ e ∈ f.toList,∃ l,Go.keyOf Tryz.prog 2 e.key=some l:=by
 intro e he
 have:(e.key,e.val) ∈ es.map (fun p=>(Value.int .i64 p.1,p.2)):=by rw [<- h];exact List.mem_map.2 ⟨e,he,rfl⟩
 obtain ⟨p,hm,e1⟩:=List.mem_map.1 this
 have e2:Value.int .i64 p.1=e.key:=congrArg Prod.fst e1
 exact ⟨_,by rw [<- e2];exact keyOf_int_mk Tryz.underlying2 (F p hm)⟩
theorem Zwi {f:Array MapEntry} {es:List (Int × Value)} (h:f.toList.map (fun e=>(e.key,e.val))=es.map (fun p=>(Value.int .i64 p.1,p.2))) {e:MapEntry} (he:e ∈ f.toList):∃ p ∈ es,e.key=.int .i64 p.1/\e.val=p.2:=by
 have:(e.key,e.val) ∈ es.map (fun p=>(Value.int .i64 p.1,p.2)):=by rw [<- h];exact List.mem_map.2 ⟨e,he,rfl⟩
 obtain ⟨p,hm,e1⟩:=List.mem_map.1 this
 exact ⟨p,hm,(congrArg Prod.fst e1).symm,(congrArg Prod.snd e1).symm⟩
theorem Zwj {t e:TypeId} {z:Value} (ht:Tryz.prog.underlying t=some (.map 2 e)) (G:∀ w,(zeroValue e).run Tryz.prog w=.ok z w) {w:World} {b:Nat} {es:List (Int × Value)} (h:MI w b es) (k:Int) (hk:I64 k) (hn:∀ p ∈ es,p.1≠k) :
  (Instr.lookup t (.map (some b)) (.int .i64 k) true).run Tryz.prog w=.ok (.tuple #[z,.bool false]) w/\(Instr.lookup t (.map (some b)) (.int .i64 k) false).run Tryz.prog w=.ok z w:=by
 obtain ⟨f,a,n,m,r,x⟩:=h
 have K:=int_keyed (P:=Tryz.prog) Tryz.underlying2
 have d:=keyOf_int_mk (P:=Tryz.prog) Tryz.underlying2 hk
 rcases K.find w d f.toList (Zq9 m r) with ⟨q,o⟩ | ⟨j,u,q,o,f3⟩
 ·constructor<;>simp [Instr.lookup,run_underlying ht,MapKept.run_getObj_map n,K.check w _ d,q,G,Result.andThen]
 ·exfalso
  obtain ⟨p,g,e1,_⟩:=Zwi m (List.mem_of_getElem? o)
  rw [f3] at e1
  have:k=p.1:=by injection e1
  exact hn p g this.symm
theorem Jca {t e:TypeId} {z:Value} (ht:Tryz.prog.underlying t=some (.map 2 e)) {w:World} {b:Nat} {es:List (Int × Value)} (h:MI w b es) (k:Int) (v:Value) (hk:I64 k) (hm:(k,v) ∈ es) (C:∀ p ∈ es,p.1=k->p.2=v) :
  (Instr.lookup t (.map (some b)) (.int .i64 k) true).run Tryz.prog w=.ok (.tuple #[v,.bool true]) w/\(Instr.lookup t (.map (some b)) (.int .i64 k) false).run Tryz.prog w=.ok v w:=by
 obtain ⟨f,a,n,m,r,x⟩:=h
 have K:=int_keyed (P:=Tryz.prog) Tryz.underlying2
 have d:=keyOf_int_mk (P:=Tryz.prog) Tryz.underlying2 hk
 rcases K.find w d f.toList (Zq9 m r) with ⟨q,o⟩ | ⟨j,u,q,o,f3⟩
 ·exfalso
  have:(Value.int .i64 k,v) ∈ f.toList.map (fun e=>(e.key,e.val)):=by rw [m];exact List.mem_map.2 ⟨_,hm,rfl⟩
  obtain ⟨e,he,e1⟩:=List.mem_map.1 this
  exact o e he (congrArg Prod.fst e1)
 ·obtain ⟨p,g,e1,e2⟩:=Zwi m (List.mem_of_getElem? o)
  rw [f3] at e1
  have s:k=p.1:=by injection e1
  have E:p.1=k:=s.symm
  have D:u.val=v:=e2.trans (C p g E)
  rw [D] at q
  clear D e2 E s e1 C hm g
  constructor<;>simp [Instr.lookup,run_underlying ht,MapKept.run_getObj_map n,K.check w _ d,q,Result.andThen]
theorem Jcb {t e:TypeId} (ht:Tryz.prog.underlying t=some (.map 2 e)) {w:World} {b:Nat} {es:List (Int × Value)} (h:MI w b es) (k:Int) (v:Value) (hk:I64 k) (hn:∀ p ∈ es,p.1≠k) :
  ∃ w',(Instr.mapUpdate t (.map (some b)) (.int .i64 k) v).run Tryz.prog w=.ok () w'/\MI w' b (es++[(k,v)])/\w'.heap.size=w.heap.size/\(∀ i,i≠b->w'.heap[i]?=w.heap[i]?)/\Below b w w':=by
 obtain ⟨f,a,n,m,r,x⟩:=h
 have y:b<w.heap.size:=(Array.getElem?_eq_some_iff.1 n).1
 have K:=int_keyed (P:=Tryz.prog) Tryz.underlying2
 have d:=keyOf_int_mk (P:=Tryz.prog) Tryz.underlying2 hk
 rcases K.find w d f.toList (Zq9 m r) with ⟨q,o⟩ | ⟨j,u,q,o,f3⟩
 ·refine ⟨{ w with heap:=w.heap.setIfInBounds b (.map (f.push ⟨.int .i64 k,v,a⟩) (a+1)) },?_,⟨f.push ⟨.int .i64 k,v,a⟩,a+1,?_,?_,?_,MapKept.stamped_push x o⟩,?_,?_,⟨rfl,rfl,rfl,?_,?_⟩⟩
  ·simp [Instr.mapUpdate,run_underlying ht,MapKept.run_getObj_map n,K.check w false d,q,MapKept.run_setObj_map _ n,Result.andThen]
  ·simp [y]
  ·simp [m]
  ·intro p g
   rcases List.mem_append.1 g with g | g
   ·exact r p g
   ·simp only [List.mem_cons,List.not_mem_nil,or_false] at g;rw [g];exact hk
  ·simp
  ·intro i A
   simp [Array.getElem?_setIfInBounds_ne (Ne.symm A)]
  ·simp
  ·intro i A
   have:i≠b:=by omega
   simp [Array.getElem?_setIfInBounds_ne (Ne.symm this)]
 ·exfalso
  obtain ⟨p,g,e1,_⟩:=Zwi m (List.mem_of_getElem? o)
  rw [f3] at e1
  have:k=p.1:=by injection e1
  exact hn p g this.symm
end Go.Proofs.YthfilnflgahcjaaGreatDoor

namespace Go.Proofs.YthfilnflgahcjaaGreatDoor
open Go.RowKit Go.Shelf Go.Maps
set_option linter.all false
attribute [local go_sem] Oper.semAt_some
set_option maxHeartbeats 1000000 in
theorem Jeo (s t:ByteArray) (p:Bool) (q z:Int) (w:World):Calls Tryz.prog 91 #[.agg #[.string s,.string t,.bool p,.int .i64 q],.int .i64 z] w fun e w'=>e=.returned (.agg #[.string s,.string t,.bool p,.int .i64 z])/\Below w.heap.size w w':=by
 go_enter Tryz.func91,Tryz.ntmps91
 go_wp2
 refine bodyPost_ret (by simp [results,Tryz.results91,go_sem]) rfl ⟨rfl,((Below.refl _ _).alloc (Nat.le_refl _) _).alloc (by simp) _⟩
structure Zul (w:World) (f:Array MapEntry) (d b r:Nat) (wr:World) (v:Value) (seen:Array Nat) (c0:Nat) (done:List MapEntry) (D:List ((Zae) × Int)):Prop where
 it:wr.heap[r]?=some (.mapIter (some b) d seen c0)
 cl:d<=c0
 bw:Below w.heap.size w wr
 row:Jb 64 4 Zc7 (r+1) wr v (D.map (fun p:Zae × Int=>(p.1.1,p.1.2.1,p.1.2.2.1,p.2)))
 dn:D.map (fun p=>(Zhc p.1,Value.int .i64 p.2))=done.map (fun e=>(e.key,e.val))
 nd:done.Nodup
 sub:∀ x ∈ done,x ∈ f.toList
 has:∀ x ∈ f.toList,seen.contains x.born=true↔x ∈ done
def Zsy (le:Zae->Zae->Prop) (most:Nat):Prop:=∀ (W:World) (v:Value) (base:Nat) (xs:List (Zae)),base<=W.heap.size->xs.length<=most->Jb 64 4 Zc7 base W v xs->Calls Tryz.prog 125 #[v,.func (.func 93) #[] #[]] W fun e w'=>e=.returned (.tuple #[])/\∃ ys,ys.Perm xs/\ys.Pairwise le/\Jb 64 4 Zc7 base w' v ys/\Below base W w'
set_option maxRecDepth 100000 in
set_option maxHeartbeats 8000000 in
theorem Zv3 {le:Zae->Zae->Prop} {most:Nat} (T:Zsy le most) (b3:most<=900000) {w:World} {b:Nat} {cs:List ((Zae) × Int)} (h:MC Zhc okE w b cs) (hl:cs.length<=most) :
  Calls Tryz.prog 92 #[.map (some b),.func (.func 91) #[] #[],.func (.func 93) #[] #[]] w fun e w'=>∃ v L,e=.returned v/\L.Perm (cs.map (fun p:Zae × Int=>(p.1.1,p.1.2.1,p.1.2.2.1,p.2)))/\L.Pairwise le/\Jb 64 4 Zc7 w.heap.size w' v L/\Below w.heap.size w w':=by
 have X:=MG.lt h
 obtain ⟨f,d,hb,A,a9,K⟩:=h
 have hn:f.size=cs.length:=by have:=congrArg List.length A;simpa using this
 have a4:Hid (∀ x ∈ f.toList,∃ p ∈ cs,x.key=Zhc p.1/\x.val=.int .i64 p.2):=fun x B=>by
  have n:(x.key,x.val) ∈ f.toList.map (fun e=>(e.key,e.val)):=List.mem_map.2 ⟨x,B,rfl⟩
  rw [A] at n
  obtain ⟨q,hq,e⟩:=List.mem_map.1 n
  obtain ⟨p,hp,rfl⟩:=List.mem_map.1 hq
  obtain ⟨e1,e2⟩:=Prod.mk.inj e
  exact ⟨p,hp,e1.symm,e2.symm⟩
 have b5:Hid (f.toList.map (fun e=>(e.key,e.val))=cs.map (fun p=>(Zhc p.1,Value.int .i64 p.2))):=by
  show _=_
  rw [A,List.map_map];rfl
 have b1:Hid (f.toList.Nodup):=by
  have:=K.2.1
  rw [List.nodup_iff_pairwise_ne] at *
  exact (List.pairwise_map.1 this).imp fun h e=>h (by rw [e])
 have a1:Hid (∀ x ∈ f.toList,∀ y ∈ f.toList,x.born=y.born->x=y):=fun x B y H e=>by
  obtain ⟨i,hi⟩:=List.getElem?_of_mem B
  obtain ⟨j,hj⟩:=List.getElem?_of_mem H
  have:=(List.getElem?_inj (l:=f.toList.map (·.born)) (by simpa using (List.getElem?_eq_some_iff.1 hi).1) K.2.1 (i:=i) (j:=j)).1 (by rw [List.getElem?_map,List.getElem?_map,hi,hj,Option.map_some,Option.map_some,e])
  subst this
  rw [hi] at hj
  exact Option.some.inj hj
 have a3:Hid (∀ done:List MapEntry,done.Nodup->(∀ x ∈ done,x ∈ f.toList)->done.length<=most):=fun done n h2=>by
  have:=Zdi n h2
  simp only [Array.length_toList] at this
  omega
 have a5:=Za K
 have HB:=Za hb
 have b2:=Za hl
 clear A a9 K hn hb hl
 go_enter Tryz.func92,Tryz.ntmps92
 have b9:=run_range_map (P:=Tryz.prog) w 143 64 2 b f d (by kernel_rfl) HB.out
 go_wp2_with fail
 go_loopw [7] (fun v wr=>∃ seen c0 done D,Zul w f d b w.heap.size wr v seen c0 done D) (fun _ wr=>wr.rangeLeft b w.heap.size)
 case atStart =>
  exact ⟨#[],d,[],[],World.alloc_heap_new _ _,Nat.le_refl _,(Below.refl _ _).alloc (Nat.le_refl _) _,Jo _ _ _ _ _,rfl,List.nodup_nil,fun x B=>by simp at B,fun x B=>by simp⟩
 case round =>
  obtain ⟨seen,c0,done,D,m⟩:=hrel
  have HC:=Za m
  have k:wr.heap[b]?=some (.map f d):=(m.bw.block b X).trans HB.out
  rcases run_next_at (P:=Tryz.prog) wr 0 w.heap.size b d c0 seen f d m.it k a5.out.1 m.cl with ⟨h0,a2⟩ | ⟨x,B,w1,C,a2⟩
  ·have HF:Hid ((D.map (fun p:Zae × Int=>(p.1.1,p.1.2.1,p.1.2.2.1,p.2))).Perm (cs.map (fun p:Zae × Int=>(p.1.1,p.1.2.1,p.1.2.2.1,p.2)))):=by
    have hp:done.Perm f.toList:=(List.perm_ext_iff_of_nodup m.nd b1.out).2 fun x=>⟨m.sub x,fun B=>(m.has x B).1 (all_seen f seen h0 x B)⟩
    have n:=hp.map (fun e=>(e.key,e.val))
    rw [<- m.dn,b5.out] at n
    exact (Zee Zzo n).map _
   have S:(D.map (fun p:Zae × Int=>(p.1.1,p.1.2.1,p.1.2.2.1,p.2))).length<=most:=by rw [HF.out.length_eq,List.length_map];exact b2.out
   have HS:=Za (T wr _ (w.heap.size+1) _ (by have:=(Array.getElem?_eq_some_iff.1 m.it).1;omega) S m.row)
   have b4:=Za m.bw
   clear m HC k h0 S
   go_wp2_with (go_at_call 125;refine HS.out.mono ?_;rintro e W3 ⟨rfl,ys,y1,y2,y3,y4⟩;have HY:=Za (And.intro y1 (And.intro y2 (And.intro y3 y4)));clear y1 y2 y3 y4)
   go_ret
   obtain ⟨y1,y2,y3,y4⟩:=HY.out
   exact ⟨_,ys,rfl,y1.trans HF.out,y2,y3.base (by omega),b4.out.trans (y4.mono (by omega))⟩
  ·obtain ⟨I,a8⟩:=mem_left B
   obtain ⟨⟨⟨s,t,p,q⟩,z⟩,b7,ek,ev⟩:=a4.out x I
   simp only [Zhc] at ek ev
   obtain ⟨U,hU⟩:∃ V,Go.ChangeMaps.setBlock w1 w.heap.size (.mapIter (some b) d (seen.push x.born) d)=V:=⟨_,rfl⟩
   rw [hU,ek,ev] at a2
   have Q:w1.heap[w.heap.size]?=some (.mapIter (some b) d seen c0):=by rcases C with rfl | rfl<;>exact m.it
   have E:=MapKept.heap_set (o':=.mapIter (some b) d (seen.push x.born) d) Q
   have Y:∀ q,q≠w.heap.size->U.heap[q]?=wr.heap[q]?:=fun q hq=>by
    rw [<- hU]
    have:w1.heap[q]?=wr.heap[q]?:=by rcases C with rfl | rfl<;>rfl
    exact (E.2 q hq).trans this
   have a7:U.heap.size=wr.heap.size:=by
    rw [<- hU]
    have:w1.heap.size=wr.heap.size:=by rcases C with rfl | rfl<;>rfl
    simp [Go.ChangeMaps.setBlock,this]
   have N:U.heap[w.heap.size]?=some (.mapIter (some b) d (seen.push x.born) d):=by rw [<- hU];exact E.1
   have M:U.os=wr.os/\U.tape=wr.tape/\U.output=wr.output:=by
    rw [<- hU]
    rcases C with rfl | rfl<;>exact ⟨rfl,rfl,rfl⟩
   have a0:Below w.heap.size w U:=⟨M.1.trans m.bw.os,M.2.1.trans m.bw.tape,M.2.2.trans m.bw.output,by rw [a7];exact m.bw.size,fun q hq=>(Y q (by omega)).trans (m.bw.block q hq)⟩
   have b8:=run_entry_at (P:=Tryz.prog) U w.heap.size b d seen f d x N ((a0.block b X).trans HB.out) I a5.out.2.1
   rw [ek,ev] at b8
   have a6:Jb 64 4 Zc7 (w.heap.size+1) U _ (D.map (fun p:Zae × Int=>(p.1.1,p.1.2.1,p.1.2.2.1,p.2))):=m.row.keep fun g hg _=>Y g (by omega)
   have F:(leftOf f (seen.push x.born)).size<(leftOf f seen).size:=left_shrinks f seen x B
   have o:wr.rangeLeft b w.heap.size=(leftOf f seen).size:=by simp only [World.rangeLeft,k,m.it]
   have R:w.heap.size<U.heap.size:=(Array.getElem?_eq_some_iff.1 N).1
   have b0:D.length<=most:=by
    have n:=congrArg List.length m.dn
    simp only [List.length_map] at n
    rw [n];exact a3.out done m.nd m.sub
   have HA:Hid (Below U.heap.size U (U.alloc (.cells #[.string s,.string t,.bool p,.int .i64 q] 64))):=(Below.refl _ _).alloc (Nat.le_refl _) _
   have HU:=Za (And.intro N (And.intro a0 (And.intro a6 (And.intro R b0))))
   have HX:=Za (And.intro I (And.intro a8 (And.intro ek ev)))
   have HM:=Za (And.intro F o)
   clear m k hU Q E Y a7 N M a0 I a8 ek ev B C F o b7 a6 R b0
   go_wp2_with (first
    | (go_at_call 91;refine (Jeo s t p q z _).mono ?_;rintro e W2 ⟨rfl,k⟩
       obtain ⟨v6,W6,p1,p2,p3,p4⟩:=Jd (ty:=30) (c:=1) (bl:=W2.heap.size) (off:=0) (x:=(s,t,p,z)) Zpz (fun x=>rfl) Zla (((HU.out.2.2.1.below HA.out).below k).below ((Below.refl _ _).alloc (Nat.le_refl _) (.cells #[.string s,.string t,.bool p,.int .i64 z] 64))) (fun jj u hu=>by
        rw [Nat.zero_add]
        exact Zh _ _ _ _ _ (by simpa [Zc7] using hu)) (by rw [List.length_map];have:=HU.out.2.2.2.2;omega) (by have n:=HU.out.2.2.2.1;have h2:=HA.out.size;have h3:=k.size;simp;omega)
       have HP:=Za (And.intro p2 (And.intro p3 k))
       clear p2 p3 p4 k)
    | (at_builtin;refine Lib.wpList_append_run _ rfl _ _ _ _ rfl _ _ rfl rfl _ _ p1 ?_))
   have G:Hid (Zul w f d b w.heap.size W6 v6 (seen.push x.born) d (done++[x]) (D++[((s,t,p,q),z)])):=by
    obtain ⟨p2,p3,k⟩:=HP.out
    obtain ⟨u1,u2,u3,u4,u5⟩:=HU.out
    have O:Below (w.heap.size+1) U W6:=(((HA.out.mono (by omega)).trans (k.mono (by have:=HA.out.size;omega))).trans (((Below.refl _ _).alloc (Nat.le_refl _) _:Below W2.heap.size W2 (W2.alloc (.cells #[.string s,.string t,.bool p,.int .i64 z] 64))).mono (by have:=HA.out.size;have:=k.size;omega))).trans p3
    refine ⟨(O.block _ (by omega)).trans u1,Nat.le_refl _,u2.trans (O.mono (by omega)),?_,?_,?_,?_,?_⟩
    ·rw [List.map_append];exact p2
    ·rw [List.map_append,List.map_append,HC.out.dn]
     simp [Zhc,HX.out.2.2.1,HX.out.2.2.2]
    ·refine List.nodup_append.2 ⟨HC.out.nd,by simp,fun a ha c hc=>?_⟩
     simp only [List.mem_singleton] at hc
     subst hc
     intro e
     subst e
     have:=(HC.out.has _ HX.out.1).2 ha
     rw [HX.out.2.1] at this
     cases this
    ·intro y H
     rcases List.mem_append.1 H with H | H
     ·exact HC.out.sub y H
     ·rw [List.mem_singleton.1 H];exact HX.out.1
    ·intro y H
     rw [contains_push]
     simp only [Bool.or_eq_true,HC.out.has y H,beq_iff_eq,List.mem_append,List.mem_singleton]
     constructor
     ·rintro (n | n)
      ·exact .inl n
      ·exact .inr (a1.out y H x HX.out.1 n)
     ·rintro (n | n)
      ·exact .inl n
      ·exact .inr (by rw [n])
   go_roundw
   case rel=>exact ⟨_,_,_,_,G.out⟩
   case measure =>
    have n:W6.rangeLeft b w.heap.size=(leftOf f (seen.push x.born)).size:=by
     have b6:W6.heap[b]?=some (.map f d):=(G.out.bw.block b X).trans HB.out
     simp only [World.rangeLeft,b6,G.out.it]
    rw [n,HM.out.2]
    exact HM.out.1
end Go.Proofs.YthfilnflgahcjaaGreatDoor

