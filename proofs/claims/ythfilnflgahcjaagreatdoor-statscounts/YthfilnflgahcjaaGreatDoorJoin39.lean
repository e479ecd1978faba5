/- A graph that is handed in: where it lies, and what is lent with it. What StatsSums' walk stands on. -/
import Derived.Test.YthfilnflgahcjaaGreatDoorJoin27
import Derived.Test.YthfilnflgahcjaaGreatDoorJoin31
import Derived.Test.YthfilnflgahcjaaGreatDoorJoin25
import Derived.Test.YthfilnflgahcjaaGreatDoorJoin34
import Derived.Test.YthfilnflgahcjaaGreatDoorJoin35
import Derived.Test.YthfilnflgahcjaaGreatDoorJoin37
import Derived.Test.YthfilnflgahcjaaGreatDoorJoin24
import Derived.Test.YthfilnflgahcjaaGreatDoorJoin4
import Derived.Test.YthfilnflgahcjaaGreatDoorJoin3
namespace Go.Proofs.YthfilnflgahcjaaGreatDoor
open Go.ChangeShapes Go.WideShapes Go.ChangeAt Go.RowKit Go.Shelf Go.Deep
set_option linter.all false
theorem Zsc:Tryz.prog.cellsOf 88=6:=by kernel_rfl
theorem Jd2:Tryz.prog.cellsOf 86=1:=by kernel_rfl
theorem Jd3:Tryz.prog.cellsOf 85=1:=by kernel_rfl
theorem Zx6:Tryz.prog.cellsOf 69=1:=by kernel_rfl
theorem Zx7:Tryz.prog.cellsOf 90=7:=by kernel_rfl
theorem Zx8:Tryz.prog.cellsOf 73=3:=by kernel_rfl
theorem Zx9:Tryz.prog.cellsOf 71=5:=by kernel_rfl
theorem Jd4:Tryz.prog.cellsOf 22=1:=by kernel_rfl
theorem Jd5:Tryz.prog.cellsOf 23=1:=by kernel_rfl
theorem Jd6:Tryz.prog.cellsOf 25=4:=by kernel_rfl
theorem Jd7:Tryz.prog.cellsOf 4=1:=by kernel_rfl
theorem Jd8:Tryz.prog.bytesOf 88=88:=by kernel_rfl
theorem Jd9:Tryz.prog.bytesOf 9=16:=by kernel_rfl
def LL (B:Nat) (w:World) (la:Option Addr) (ts:List Zd):Prop:=ts=[]\/∃ bl off,la=some ⟨bl,off,none⟩/\bl<B/\KidsLie B w bl off ts
section
variable {H:Type} {enc:TypeId × Value->H} {W:World}
theorem Zya {B bl:Nat} {w:World}:∀ (l:List Zd) (off:Nat),(∀ (i:Nat) (t:Zd),l[i]?=some t->∃ M Q v2 N O R,(w.cell? ⟨bl,off+i*6,none⟩=some M/\w.cell? ⟨bl,off+i*6+1,none⟩=some Q/\w.cell? ⟨bl,off+i*6+2,none⟩=some v2/\w.cell? ⟨bl,off+i*6+3,none⟩=some N /\
   w.cell? ⟨bl,off+i*6+4,none⟩=some O/\w.cell? ⟨bl,off+i*6+5,none⟩=some R)/\Zb6 B w (.agg #[M,Q,v2,N,O,R]) t)->KidsLie B w bl off l
 | [],off,h=>by simp only [KidsLie]
 | t::l,off,h=>by
  rw [KidsLie]
  refine ⟨?_,Zya l (off+6) fun i u hu=>?_⟩
  ·have:=h 0 t rfl
   simpa using this
  ·have:=h (i+1) u (by simpa using hu)
   have e:off+(i+1)*6=off+6+i*6:=by omega
   rwa [e] at this
theorem Zqh:∀ (l:List Zd),(∀ t ∈ l,Zc3 t)->RangedL l
 | [],_=>by simp only [RangedL]
 | t::l,h=>by
  rw [RangedL]
  exact ⟨h t (by simp),Zqh l fun u hu=>h u (by simp [hu])⟩
theorem Zyb:∀ (l:List Zd),(∀ t ∈ l,Zq6 t)->SaneL l
 | [],_=>by simp only [SaneL]
 | t::l,h=>by
  rw [SaneL]
  exact ⟨h t (by simp),Zyb l fun u hu=>h u (by simp [hu])⟩
def Jga (enc:TypeId × Value->H) (W:World) (fuel:Nat):Prop:=∀ (cs:List Value) (d:DataW H) (p:List MemPlace),DataW.trod enc Tryz.prog W 0 (fun _=>true) true fuel 88 cs=some (d,p) ->
 (∀ x ∈ d.weights Tryz.prog 88,x<=reachBytes)->∃ T,Zb6 W.heap.size W (.agg cs.toArray) T/\Zq6 T/\Zc3 T
theorem Zlh {fuel:Nat} (ih:∀ m,m<fuel->Jga enc W m) {cs:List Value} {d:DataW H} {p:List MemPlace} (h:DataW.trod enc Tryz.prog W 0 (fun _=>true) true fuel 86 cs=some (d,p))
  (I:∀ x ∈ d.weights Tryz.prog 86,x<=reachBytes) :
  ∃ (la:Option Addr) (lc:Nat) (ts:List Zd),cs=[.slice la ts.length lc]/\ts.length<=lc/\lc<=maxLen/\ts.length<=140737488355328/\LL W.heap.size W la ts/\SaneL ts/\RangedL ts:=by
 rcases DataW.trod_slice Tryz.underlying86 h with ⟨rfl,_⟩ | ⟨a,len,cap,a2,rest,n,U,rfl,C,_,hl,hm,E,a4,_,_⟩
 ·exact ⟨none,0,[],rfl,Nat.le_refl _,by unfold maxLen;omega,by simp,.inl rfl,by simp only [SaneL],by simp only [RangedL]⟩
 ·simp only [Prod.mk.injEq] at C
  obtain ⟨rfl,_⟩:=C
  simp only [DataW.weights,Tryz.underlying86,List.mem_cons,List.mem_append] at I
  have Y:len<=140737488355328:=by
   have:=I _ (.inl rfl)
   rw [Jd8,List.length_map,List.length_map,E] at this
   unfold reachBytes at this
   omega
  have L:∀ i,i<len->∃ t:Zd,(∃ M Q v2 N O R,(W.cell? ((a.add (i*6)).add 0)=some M/\W.cell? ((a.add (i*6)).add 1)=some Q/\W.cell? ((a.add (i*6)).add 2)=some v2/\W.cell? ((a.add (i*6)).add 3)=some N/\W.cell? ((a.add (i*6)).add 4)=some O/\W.cell? ((a.add (i*6)).add 5)=some R) /\
    Zb6 W.heap.size W (.agg #[M,Q,v2,N,O,R]) t)/\Zq6 t/\Zc3 t:=by
   intro i hi
   have key:=a4 i hi
   rw [Zsc,List.getElem?_eq_getElem (by omega)] at key
   obtain ⟨b2,h1,h2⟩:=Option.bind_eq_some_iff.1 key
   obtain ⟨_,d0,o⟩:=World.cells?_some h1
   match b2,d0 with
   | [M,Q,v2,N,O,R],_ =>
    obtain ⟨T,hT,hS⟩:=ih n (by omega) _ _ _ h2 (fun x C=>I x (.inr (.inl (Zb1 (List.mem_map.2 ⟨_,List.getElem_mem (by omega),rfl⟩) C))))
    exact ⟨T,⟨M,Q,v2,N,O,R,⟨o 0 (by omega),o 1 (by omega),o 2 (by omega),o 3 (by omega),o 4 (by omega),o 5 (by omega)⟩,hT⟩,hS⟩
  have:Inhabited Zd:=⟨.mk 0 false 0 ⟨#[]⟩ [] []⟩
  obtain ⟨f,F⟩:=choose_lt L
  have b0:((List.range len).map f).length=len:=by simp
  refine ⟨some a,cap,(List.range len).map f,by rw [b0],by omega,hm,by omega,?_,?_,?_⟩
  ·by_cases h0:len=0
   ·left;subst h0;rfl
   ·right
    obtain ⟨bl,off,K⟩:=a
    obtain ⟨M,_,_,_,_,_,⟨c0,_⟩,_⟩:=(F 0 (by omega)).1
    have G:K=none:=by simpa [Addr.add] using World.cell?_spot c0
    subst G
    refine ⟨bl,off,rfl,Jj c0,Zya _ _ ?_⟩
    intro i t hit
    rw [List.getElem?_map] at hit
    obtain ⟨j,V,rfl⟩:=Option.map_eq_some_iff.1 hit
    rw [List.getElem?_eq_some_iff] at V
    obtain ⟨X,a0⟩:=V
    simp only [List.length_range,List.getElem_range] at X a0
    subst a0
    obtain ⟨M,Q,v2,N,O,R,⟨c0,c1,c2,c3,c4,c5⟩,hv⟩:=(F _ X).1
    rw [add_plain,add_plain] at c0 c1 c2 c3 c4 c5
    exact ⟨M,Q,v2,N,O,R,⟨c0,c1,c2,c3,c4,c5⟩,hv⟩
  ·refine Zyb _ fun t ht=>?_
   obtain ⟨j,V,rfl⟩:=List.mem_map.1 ht
   exact (F j (List.mem_range.1 V)).2.1
  ·refine Zqh _ fun t ht=>?_
   obtain ⟨j,V,rfl⟩:=List.mem_map.1 ht
   exact (F j (List.mem_range.1 V)).2.2
set_option maxRecDepth 100000 in
theorem Zvr:∀ fuel,Jga enc W fuel:=by
 intro fuel
 induction fuel using Nat.strongRecOn with
 | _ fuel ih =>
  intro cs d p h I
  obtain ⟨xs,n,U,C,hl,E,F⟩:=DataW.trod_struct Tryz.underlying88 h
  rw [Zsc] at hl
  match cs,hl with
  | [M,Q,v2,N,O,R],_ =>
   match xs,E with
   | [y0,y1,y2,y3,y4,y5],_ =>
    simp only [Prod.mk.injEq] at C
    obtain ⟨rfl,_⟩:=C
    have f0:DataW.trod enc Tryz.prog W 0 (fun _=>true) true n 85 [M]=some y0:=by simpa [Jd3] using F 0 { name := "Kind",type:=85,offset:=0,embedded:=false,tag := "",pkgPath := "",byteOffset:=0 } rfl
    have f1:DataW.trod enc Tryz.prog W 0 (fun _=>true) true n 4 [Q]=some y1:=by simpa [Jd7] using F 1 { name := "Bool",type:=4,offset:=1,embedded:=false,tag := "",pkgPath := "",byteOffset:=8 } rfl
    have f2:DataW.trod enc Tryz.prog W 0 (fun _=>true) true n 2 [v2]=some y2:=by simpa [Zeo] using F 2 { name := "Int",type:=2,offset:=2,embedded:=false,tag := "",pkgPath := "",byteOffset:=16 } rfl
    have f3:DataW.trod enc Tryz.prog W 0 (fun _=>true) true n 9 [N]=some y3:=by simpa [Zgj] using F 3 { name := "Text",type:=9,offset:=3,embedded:=false,tag := "",pkgPath := "",byteOffset:=24 } rfl
    have f4:DataW.trod enc Tryz.prog W 0 (fun _=>true) true n 43 [O]=some y4:=by simpa [Zyu] using F 4 { name := "Keys",type:=43,offset:=4,embedded:=false,tag := "",pkgPath := "",byteOffset:=40 } rfl
    have f5:DataW.trod enc Tryz.prog W 0 (fun _=>true) true n 86 [R]=some y5:=by simpa [Jd2] using F 5 { name := "List",type:=86,offset:=5,embedded:=false,tag := "",pkgPath := "",byteOffset:=64 } rfl
    obtain ⟨k,e0,_,_⟩:=DataW.trod_int Tryz.underlying85 f0
    obtain ⟨b,e1,_⟩:=DataW.trod_bool Tryz.underlying4 f1
    obtain ⟨m,e2,_,a3⟩:=DataW.trod_int Tryz.underlying2 f2
    obtain ⟨s,e3,b4,hs⟩:=DataW.trod_string Tryz.underlying9 f3
    simp only [List.cons.injEq,and_true] at e0 e1 e2 e3
    subst e0 e1 e2 e3
    have D:∀ x,(x ∈ y3.1.weights Tryz.prog 9\/x ∈ y4.1.weights Tryz.prog 43\/x ∈ y5.1.weights Tryz.prog 86)->x<=reachBytes:=by
     intro x C
     apply I x
     simp only [DataW.weights,Tryz.underlying88,List.map_cons,List.map_nil,DataW.weightsEach,List.mem_append]
     rcases C with h | h | h
     ·exact .inr (.inr (.inr (.inl h)))
     ·exact .inr (.inr (.inr (.inr (.inl h))))
     ·exact .inr (.inr (.inr (.inr (.inr (.inl h)))))
    have S:s.size<=140737488355328:=by
     have:=D s.size (.inl (by rw [b4];simp [DataW.weights]))
     unfold reachBytes at this
     omega
    obtain ⟨la,lc,ts,e5,g1,g2,g3,g4,g5,g6⟩:=Zlh (fun m hm=>ih m (by omega)) f5 (fun x C=>D x (.inr (.inr C)))
    simp only [List.cons.injEq,and_true] at e5
    subst e5
    rcases open_strings Tryz.underlying43 Tryz.underlying9 Zgj f4 with ⟨P,_⟩ | ⟨a,len,cap,ss,P,_,c7,a7,a9,a6,o,Y⟩
    ·simp only [List.cons.injEq,and_true] at P
     subst P
     refine ⟨.mk k b m s [] ts,?_,?_,by rw [Zc3];exact ⟨Zc2 a3,g6⟩⟩
     ·rw [Zb6]
      exact ⟨none,0,la,lc,rfl,⟨hs,by simp,by unfold maxLen;omega,g1,g2⟩,.inl rfl,g4⟩
     ·rw [Zq6]
      exact ⟨S,by simp,g3,by simp,g5⟩
    ·simp only [List.cons.injEq,and_true] at P
     subst P
     simp only [if_true] at a9
     have e:(ss.take len).length=len:=by simp;omega
     have b8:len<=140737488355328/\∀ y ∈ ss.take len,y.size<=140737488355328:=by
      rw [a6] at D
      simp only [DataW.weights,Tryz.underlying43,List.mem_cons,List.mem_append] at D
      refine ⟨?_,fun y hy=>?_⟩
      ·have:=D _ (.inr (.inl (.inl rfl)))
       rw [Jd9] at this
       unfold reachBytes strs at this
       simp only [List.length_map,e] at this
       omega
      ·have:=D y.size (.inr (.inl (.inr (.inl (Zb1 (d:=.lit (.string y.data.toList)) (by unfold strs;exact List.mem_map.2 ⟨y,hy,rfl⟩) (by simp [DataW.weights]))))))
       unfold reachBytes at this
       omega
     refine ⟨.mk k b m s (ss.take len) ts,?_,?_,by rw [Zc3];exact ⟨Zc2 a3,g6⟩⟩
     ·rw [Zb6]
      refine ⟨some a,cap,la,lc,by rw [e],⟨hs,by omega,a7,g1,g2⟩,?_,g4⟩
      by_cases h0:len=0
      ·left;subst h0;simp
      ·right
       obtain ⟨bk,off,K⟩:=a
       have c0:=o 0 (by omega)
       have G:K=none:=by simpa [Addr.add] using World.cell?_spot c0
       subst G
       refine ⟨bk,off,rfl,Jj c0,fun i hi=>?_⟩
       rw [e] at hi
       have hg:(ss.take len).getD i ⟨#[]⟩=ss.getD i ByteArray.empty:=by
        rw [List.getD_eq_getElem?_getD,List.getElem?_take_of_lt hi,List.getD_eq_getElem?_getD];rfl
       rw [hg,<- add_plain]
       refine ⟨o i (by omega),?_⟩
       rw [List.getD_eq_getElem?_getD,List.getElem?_eq_getElem (by omega)]
       exact Y _ (List.getElem_mem _)
     ·rw [Zq6]
      exact ⟨S,by omega,g3,b8.2,g5⟩
theorem Zli {α:Type} [Inhabited α] {st et k bytes:Nat} {At:World->Nat->Nat->α->Prop} {ok:α->Prop} (hu:Tryz.prog.underlying st=some (.slice et)) (hk:Tryz.prog.cellsOf et=k) (c8:Tryz.prog.bytesOf et=bytes) (d2:0<bytes) (b6:0<k)
  (b3:∀ fuel cs y,DataW.trod enc Tryz.prog W 0 (fun _=>true) true fuel et cs=some y->(∀ x ∈ y.1.weights Tryz.prog et,x<=reachBytes)->∃ x:α,ok x/\∀ bl off,(∀ j u,cs[j]?=some u->W.cell? ⟨bl,off+j,none⟩=some u)->At W bl off x)
  {fuel:Nat} {cs:List Value} {d:DataW H} {p:List MemPlace} (h:DataW.trod enc Tryz.prog W 0 (fun _=>true) true fuel st cs=some (d,p)) (I:∀ x ∈ d.weights Tryz.prog st,x<=reachBytes) :
  ∃ a c xs,cs=[.slice a (xs:List α).length c]/\Zho k At W.heap.size W (.slice a xs.length c) xs/\(∀ x ∈ xs,ok x)/\xs.length<=140737488355328:=by
 rcases DataW.trod_slice hu h with ⟨rfl,_⟩ | ⟨a,len,cap,a2,rest,n,U,rfl,C,_,hl,hm,b9,a4,_,_⟩
 ·exact ⟨none,0,[],rfl,⟨none,0,rfl,Nat.le_refl _,by decide,.inl rfl⟩,fun x C=>by simp at C,by simp⟩
 ·simp only [Prod.mk.injEq] at C
  obtain ⟨rfl,_⟩:=C
  have Y:len<=140737488355328:=by
   have h1:=I (((a2.map (·.1)).length+(rest.map (·.1)).length)*bytes) (by
    simp only [DataW.weights,hu,List.mem_cons,List.mem_append]
    exact .inl (by rw [c8]))
   rw [List.length_map,b9,Nat.add_mul] at h1
   unfold reachBytes at h1
   have h2:len<=len*bytes:=Nat.le_mul_of_pos_right len d2
   omega
  have L:∀ i,i<len->∃ x:α,(∃ u,W.cell? ((a.add (i*k)).add 0)=some u)/\ok x/\∀ bl off,a=⟨bl,off,none⟩->At W bl (off+i*k) x:=by
   intro i hi
   have key:=a4 i hi
   rw [hk,List.getElem?_eq_getElem (by omega)] at key
   obtain ⟨b2,h1,h2⟩:=Option.bind_eq_some_iff.1 key
   obtain ⟨_,d3,o⟩:=World.cells?_some h1
   obtain ⟨x,C,c9⟩:=b3 _ _ _ h2 fun z hz=>I z (by
    simp only [DataW.weights,hu,List.mem_cons,List.mem_append]
    exact .inr (.inl (Zb1 (List.mem_map_of_mem (List.getElem_mem _)) hz)))
   refine ⟨x,⟨_,(o 0 b6).trans (List.getElem?_eq_getElem (by omega))⟩,C,fun bl off e=>c9 bl _ fun j u V=>?_⟩
   obtain ⟨d5,d4⟩:=List.getElem?_eq_some_iff.1 V
   have:=(o j (by omega)).trans V
   rw [e,add_plain,add_plain] at this
   exact this
  obtain ⟨f,F⟩:=choose_lt L
  have b0:((List.range len).map f).length=len:=by simp
  refine ⟨some a,cap,(List.range len).map f,by rw [b0],⟨some a,cap,rfl,by omega,?_,?_⟩,?_,by omega⟩
  ·unfold maxLen at hm;omega
  ·by_cases h0:len=0
   ·left;subst h0;rfl
   ·right
    obtain ⟨bl,off,K⟩:=a
    obtain ⟨⟨u0,c0⟩,_⟩:=F 0 (by omega)
    have G:K=none:=by simpa [Addr.add] using World.cell?_spot c0
    subst G
    rw [add_plain,add_plain] at c0
    refine ⟨bl,off,rfl,Jj c0,?_⟩
    intro i x b1
    rw [List.getElem?_map] at b1
    obtain ⟨q,hq,rfl⟩:=Option.map_eq_some_iff.1 b1
    rw [List.getElem?_eq_some_iff] at hq
    obtain ⟨X,a0⟩:=hq
    simp only [List.length_range,List.getElem_range] at X a0
    subst a0
    exact (F _ X).2.2 bl off rfl
  ·intro x C
   obtain ⟨j,V,rfl⟩:=List.mem_map.1 C
   exact (F j (List.mem_range.1 V)).2.1
def okP (q:ByteArray × Zd):Prop:=Zq6 q.2/\Zc3 q.2/\q.1.size<=140737488355328
set_option maxRecDepth 100000 in
theorem Zyc {fuel:Nat} {cs:List Value} {y:DataW H × List MemPlace} (h:DataW.trod enc Tryz.prog W 0 (fun _=>true) true fuel 90 cs=some y) (I:∀ x ∈ y.1.weights Tryz.prog 90,x<=reachBytes) :
  ∃ q:ByteArray × Zd,okP q/\∀ bl off,(∀ j u,cs[j]?=some u->W.cell? ⟨bl,off+j,none⟩=some u)->Zii W.heap.size W bl off q:=by
 obtain ⟨xs,n,U,C,hl,E,F⟩:=DataW.trod_struct Tryz.underlying90 h
 rw [Zx7] at hl
 match cs,hl with
 | [u,M,Q,v2,N,O,R],_ =>
  match xs,E with
  | [y1,y2],_ =>
   subst C
   have f1:DataW.trod enc Tryz.prog W 0 (fun _=>true) true n 9 [u]=some y1:=by simpa [Zgj] using F 0 { name := "Key",type:=9,offset:=0,embedded:=false,tag := "",pkgPath := "",byteOffset:=0 } rfl
   have f2:DataW.trod enc Tryz.prog W 0 (fun _=>true) true n 88 [M,Q,v2,N,O,R]=some y2:=by simpa [Zsc] using F 1 { name := "Value",type:=88,offset:=1,embedded:=false,tag := "",pkgPath := "",byteOffset:=16 } rfl
   obtain ⟨s,e1,b5,hs⟩:=DataW.trod_string Tryz.underlying9 f1
   simp only [List.cons.injEq,and_true] at e1
   subst e1
   have D:∀ x,x ∈ y1.1.weights Tryz.prog 9\/x ∈ y2.1.weights Tryz.prog 88->x<=reachBytes:=by
    intro x C
    apply I x
    simp only [DataW.weights,Tryz.underlying90,List.map_cons,List.map_nil,DataW.weightsEach,List.mem_append]
    rcases C with h | h
    ·exact .inl h
    ·exact .inr (.inl h)
   have S:s.size<=140737488355328:=by
    have:=D s.size (.inl (by rw [b5];simp [DataW.weights]))
    unfold reachBytes at this
    omega
   obtain ⟨T,hT,hS,hR⟩:=Zvr n _ _ _ f2 (fun x C=>D x (.inr C))
   refine ⟨(s,T),⟨hS,hR,S⟩,fun bl off L=>⟨L 0 _ rfl,hs,M,Q,v2,N,O,R,⟨L 1 _ rfl,L 2 _ rfl,L 3 _ rfl,L 4 _ rfl,L 5 _ rfl,L 6 _ rfl⟩,hT⟩⟩
theorem Zm1 {fuel:Nat} {cs:List Value} {d:DataW H} {p:List MemPlace} (h:DataW.trod enc Tryz.prog W 0 (fun _=>true) true fuel 69 cs=some (d,p)) (I:∀ x ∈ d.weights Tryz.prog 69,x<=reachBytes) :
  ∃ v ps,cs=[v]/\Zbq W.heap.size W v ps/\∀ q ∈ ps,okP q:=by
 have:Inhabited (ByteArray × Zd):=⟨(⟨#[]⟩,.mk 0 false 0 ⟨#[]⟩ [] [])⟩
 obtain ⟨a,c,xs,e,h1,h2,_⟩:=Zli (k:=7) (At:=Zii W.heap.size) (ok:=okP) Tryz.underlying69 Zx7 (by kernel_rfl:Tryz.prog.bytesOf 90=104) (by decide) (by decide) (fun _ _ _ h I=>Zyc h I) h I
 obtain ⟨a',c',e2,g1,g2,g3⟩:=h1
 exact ⟨_,xs,e,⟨a',c',e2,g1,g2,g3⟩,h2⟩
theorem Zyd {fuel:Nat} {u:Value} {y:DataW H × List MemPlace} (h:DataW.trod enc Tryz.prog W 0 (fun _=>true) true fuel 43 [u]=some y) (I:∀ x ∈ y.1.weights Tryz.prog 43,x<=reachBytes) :
  ∃ (la:Option Addr) (lc:Nat) (ks:List ByteArray),u=.slice la ks.length lc/\(ks.length<=lc/\lc<=9223372036854775807)/\Zbh W.heap.size W la ks/\∀ x ∈ ks,x.size<=140737488355328:=by
 rcases open_strings Tryz.underlying43 Tryz.underlying9 Zgj h with ⟨P,e5⟩ | ⟨a,len,cap,ss,P,_,c7,a7,a9,a6,o,Y⟩
 ·simp only [List.cons.injEq,and_true] at P
  subst P e5
  exact ⟨none,0,[],rfl,⟨Nat.le_refl _,by omega⟩,.inl rfl,by simp⟩
 ·simp only [List.cons.injEq,and_true] at P
  subst P
  simp only [if_true] at a9
  have e:(ss.take len).length=len:=by simp;omega
  refine ⟨some a,cap,ss.take len,by rw [e],⟨by omega,by unfold maxLen at a7;omega⟩,?_,?_⟩
  ·by_cases h0:len=0
   ·left;subst h0;simp
   ·right
    obtain ⟨bk,off,K⟩:=a
    have c0:=o 0 (by omega)
    have G:K=none:=by simpa [Addr.add] using World.cell?_spot c0
    subst G
    refine ⟨bk,off,rfl,Jj c0,fun i hi=>?_⟩
    rw [e] at hi
    have hg:(ss.take len).getD i ⟨#[]⟩=ss.getD i ByteArray.empty:=by
     rw [List.getD_eq_getElem?_getD,List.getElem?_take_of_lt hi,List.getD_eq_getElem?_getD];rfl
    rw [hg,<- add_plain]
    refine ⟨o i (by omega),?_⟩
    rw [List.getD_eq_getElem?_getD,List.getElem?_eq_getElem (by omega)]
    exact Y _ (List.getElem_mem _)
  ·intro x C
   rw [a6] at I
   simp only [DataW.weights,Tryz.underlying43,List.mem_cons,List.mem_append] at I
   have:=I x.size (.inr (.inl (Zb1 (d:=.lit (.string x.data.toList)) (by unfold strs;exact List.mem_map.2 ⟨x,C,rfl⟩) (by simp [DataW.weights]))))
   unfold reachBytes at this
   omega
def okN (n:Zj):Prop:=W64 n.id/\(∀ x ∈ n.labels,x.size<=140737488355328)/\∀ q ∈ n.props,okP q
def okR (r:Zbr):Prop:=(W64 r.id/\W64 r.fr/\W64 r.tt)/\r.type.size<=140737488355328/\∀ q ∈ r.props,okP q
set_option maxRecDepth 100000 in
theorem Zye {fuel:Nat} {cs:List Value} {y:DataW H × List MemPlace} (h:DataW.trod enc Tryz.prog W 0 (fun _=>true) true fuel 73 cs=some y) (I:∀ x ∈ y.1.weights Tryz.prog 73,x<=reachBytes) :
  ∃ q:Zj,okN q/\∀ bl off,(∀ j u,cs[j]?=some u->W.cell? ⟨bl,off+j,none⟩=some u)->Zlj W.heap.size W bl off q:=by
 obtain ⟨xs,n,U,C,hl,E,F⟩:=DataW.trod_struct Tryz.underlying73 h
 rw [Zx8] at hl
 match cs,hl with
 | [u0,u1,u2],_ =>
  match xs,E with
  | [y0,y1,(y2,z2)],_ =>
   subst C
   have f0:DataW.trod enc Tryz.prog W 0 (fun _=>true) true n 2 [u0]=some y0:=by simpa [Zeo] using F 0 { name := "ID",type:=2,offset:=0,embedded:=false,tag := "",pkgPath := "",byteOffset:=0 } rfl
   have f1:DataW.trod enc Tryz.prog W 0 (fun _=>true) true n 43 [u1]=some y1:=by simpa [Zyu] using F 1 { name := "Labels",type:=43,offset:=1,embedded:=false,tag := "",pkgPath := "",byteOffset:=8 } rfl
   have f2:DataW.trod enc Tryz.prog W 0 (fun _=>true) true n 69 [u2]=some (y2,z2):=by simpa [Zx6] using F 2 { name := "Props",type:=69,offset:=2,embedded:=false,tag := "",pkgPath := "",byteOffset:=32 } rfl
   have D:∀ x,x ∈ y1.1.weights Tryz.prog 43\/x ∈ y2.weights Tryz.prog 69->x<=reachBytes:=by
    intro x C
    apply I x
    simp only [DataW.weights,Tryz.underlying73,List.map_cons,List.map_nil,DataW.weightsEach,List.mem_append]
    rcases C with h | h
    ·exact .inr (.inl h)
    ·exact .inr (.inr (.inl h))
   obtain ⟨k,e0,hk⟩:=Zg1 f0
   obtain ⟨la,lc,ks,rfl,k1,k2,k3⟩:=Zyd f1 fun x C=>D x (.inl C)
   obtain ⟨pv,ps,e2,a8,a1⟩:=Zm1 f2 fun x C=>D x (.inr C)
   simp only [Zkk,List.cons.injEq,and_true] at e0 e2
   subst e0 e2
   exact ⟨⟨k,ks,ps⟩,⟨hk,k3,a1⟩,fun bl off L=>⟨la,lc,u2,⟨L 0 _ rfl,L 1 _ rfl,L 2 _ rfl⟩,k1,k2,a8⟩⟩
set_option maxRecDepth 100000 in
theorem Jbl {fuel:Nat} {cs:List Value} {y:DataW H × List MemPlace} (h:DataW.trod enc Tryz.prog W 0 (fun _=>true) true fuel 71 cs=some y) (I:∀ x ∈ y.1.weights Tryz.prog 71,x<=reachBytes) :
  ∃ q:Zbr,okR q/\∀ bl off,(∀ j u,cs[j]?=some u->W.cell? ⟨bl,off+j,none⟩=some u)->Zsd W.heap.size W bl off q:=by
 obtain ⟨xs,n,U,C,hl,E,F⟩:=DataW.trod_struct Tryz.underlying71 h
 rw [Zx9] at hl
 match cs,hl with
 | [u0,u1,u2,u3,u4],_ =>
  match xs,E with
  | [y0,y1,y2,y3,(y4,z4)],_ =>
   subst C
   have f0:DataW.trod enc Tryz.prog W 0 (fun _=>true) true n 2 [u0]=some y0:=by simpa [Zeo] using F 0 { name := "ID",type:=2,offset:=0,embedded:=false,tag := "",pkgPath := "",byteOffset:=0 } rfl
   have f1:DataW.trod enc Tryz.prog W 0 (fun _=>true) true n 2 [u1]=some y1:=by simpa [Zeo] using F 1 { name := "From",type:=2,offset:=1,embedded:=false,tag := "",pkgPath := "",byteOffset:=8 } rfl
   have f2:DataW.trod enc Tryz.prog W 0 (fun _=>true) true n 2 [u2]=some y2:=by simpa [Zeo] using F 2 { name := "To",type:=2,offset:=2,embedded:=false,tag := "",pkgPath := "",byteOffset:=16 } rfl
   have f3:DataW.trod enc Tryz.prog W 0 (fun _=>true) true n 9 [u3]=some y3:=by simpa [Zgj] using F 3 { name := "Type",type:=9,offset:=3,embedded:=false,tag := "",pkgPath := "",byteOffset:=24 } rfl
   have f4:DataW.trod enc Tryz.prog W 0 (fun _=>true) true n 69 [u4]=some (y4,z4):=by simpa [Zx6] using F 4 { name := "Props",type:=69,offset:=4,embedded:=false,tag := "",pkgPath := "",byteOffset:=40 } rfl
   have D:∀ x,x ∈ y3.1.weights Tryz.prog 9\/x ∈ y4.weights Tryz.prog 69->x<=reachBytes:=by
    intro x C
    apply I x
    simp only [DataW.weights,Tryz.underlying71,List.map_cons,List.map_nil,DataW.weightsEach,List.mem_append]
    rcases C with h | h
    ·exact .inr (.inr (.inr (.inl h)))
    ·exact .inr (.inr (.inr (.inr (.inl h))))
   obtain ⟨k,e0,hk⟩:=Zg1 f0
   obtain ⟨k1,e1,c6⟩:=Zg1 f1
   obtain ⟨k2,e2,a5⟩:=Zg1 f2
   obtain ⟨s,e3,hs,d1⟩:=Zx5 f3
   obtain ⟨pv,ps,P,a8,a1⟩:=Zm1 f4 fun x C=>D x (.inr C)
   have S:s.size<=140737488355328:=by
    have:=D _ (.inl d1)
    unfold reachBytes at this
    omega
   simp only [Zkk,Zap,List.cons.injEq,and_true] at e0 e1 e2 e3 P
   subst e0 e1 e2 e3 P
   exact ⟨⟨k,k1,k2,s,ps⟩,⟨⟨hk,c6,a5⟩,S,a1⟩,fun bl off L=>⟨u4,⟨L 0 _ rfl,L 1 _ rfl,L 2 _ rfl,L 3 _ rfl,L 4 _ rfl⟩,hs,a8⟩⟩
structure Jbm (g:Zx):Prop where
 n:∀ x ∈ g.nodes,okN x
 r:∀ x ∈ g.rels,okR x
 ln:g.nodes.length<=140737488355328
 lr:g.rels.length<=140737488355328
 nn:W64 g.nn
 nr:W64 g.nr
theorem Jbm.sane {g:Zx} (h:Jbm g):Jax g :=
 ⟨h.ln,h.lr,fun x C=>(h.n x C).2.1,fun x C q hq=>⟨((h.n x C).2.2 q hq).1,Nat.le_trans ((h.n x C).2.2 q hq).2.2 (by decide)⟩,fun x C=>(h.r x C).2.1,fun x C q hq=>⟨((h.r x C).2.2 q hq).1,Nat.le_trans ((h.r x C).2.2 q hq).2.2 (by decide)⟩⟩
set_option maxRecDepth 100000 in
theorem Zvs {fuel:Nat} {cs:List Value} {d:DataW H} {p:List MemPlace} (h:DataW.trod enc Tryz.prog W 0 (fun _=>true) true fuel 25 cs=some (d,p)) (I:∀ x ∈ d.weights Tryz.prog 25,x<=reachBytes) :
  ∃ g:Zx,Zp W.heap.size W (.agg cs.toArray) g/\Jbm g:=by
 obtain ⟨xs,n,U,C,hl,E,F⟩:=DataW.trod_struct Tryz.underlying25 h
 rw [Jd6] at hl
 match cs,hl with
 | [u0,u1,u2,u3],_ =>
  match xs,E with
  | [(y0,z0),(y1,z1),y2,y3],_ =>
   simp only [Prod.mk.injEq] at C
   obtain ⟨rfl,_⟩:=C
   have f0:DataW.trod enc Tryz.prog W 0 (fun _=>true) true n 22 [u0]=some (y0,z0):=by simpa [Jd4] using F 0 { name := "Nodes",type:=22,offset:=0,embedded:=false,tag := "",pkgPath := "",byteOffset:=0 } rfl
   have f1:DataW.trod enc Tryz.prog W 0 (fun _=>true) true n 23 [u1]=some (y1,z1):=by simpa [Jd5] using F 1 { name := "Rels",type:=23,offset:=1,embedded:=false,tag := "",pkgPath := "",byteOffset:=24 } rfl
   have f2:DataW.trod enc Tryz.prog W 0 (fun _=>true) true n 2 [u2]=some y2:=by simpa [Zeo] using F 2 { name := "NextNode",type:=2,offset:=2,embedded:=false,tag := "",pkgPath := "",byteOffset:=48 } rfl
   have f3:DataW.trod enc Tryz.prog W 0 (fun _=>true) true n 2 [u3]=some y3:=by simpa [Zeo] using F 3 { name := "NextRel",type:=2,offset:=3,embedded:=false,tag := "",pkgPath := "",byteOffset:=56 } rfl
   have D:∀ x,x ∈ y0.weights Tryz.prog 22\/x ∈ y1.weights Tryz.prog 23->x<=reachBytes:=by
    intro x C
    apply I x
    simp only [DataW.weights,Tryz.underlying25,List.map_cons,List.map_nil,DataW.weightsEach,List.mem_append]
    rcases C with h | h
    ·exact .inl h
    ·exact .inr (.inl h)
   have:Inhabited Zj:=⟨⟨0,[],[]⟩⟩
   have:Inhabited Zbr:=⟨⟨0,0,0,⟨#[]⟩,[]⟩⟩
   obtain ⟨na,nc,ns,e0,h1,h2,h3⟩:=Zli (k:=3) (At:=Zlj W.heap.size) (ok:=okN) Tryz.underlying22 Zx8 (by kernel_rfl:Tryz.prog.bytesOf 73=56) (by decide) (by decide) (fun _ _ _ h I=>Zye h I) f0 (fun x C=>D x (.inl C))
   obtain ⟨ra,rc,rs,e1,g1,g2,g3⟩:=Zli (k:=5) (At:=Zsd W.heap.size) (ok:=okR) Tryz.underlying23 Zx9 (by kernel_rfl:Tryz.prog.bytesOf 71=64) (by decide) (by decide) (fun _ _ _ h I=>Jbl h I) f1 (fun x C=>D x (.inr C))
   obtain ⟨k2,e2,a5⟩:=Zg1 f2
   obtain ⟨k3,e3,b7⟩:=Zg1 f3
   simp only [Zkk,List.cons.injEq,and_true] at e0 e1 e2 e3
   subst e0 e1 e2 e3
   exact ⟨⟨ns,rs,k2,k3⟩,⟨na,nc,ra,rc,rfl,h1,g1⟩,⟨h2,g2,h3,g3,a5,b7⟩⟩
end
end Go.Proofs.YthfilnflgahcjaaGreatDoor

namespace Go.Proofs.YthfilnflgahcjaaGreatDoor
open Go.RowKit Go.Shelf Go.Maps
set_option linter.all false
attribute [local go_sem] Oper.semAt_some
theorem Zb5 (w:World):upC w=fun w'=>∃ u:Up w,w'=u.x:=rfl
structure Zj8 (g:Zx) (s:Zak) (B sb m m2 lm tm em km nc rc lc tc ec kc:Nat) (na ra la ta ea ka:Option Addr) (nn nr:Int) (w W5:World):Prop where
 hB:B<=w.heap.size
 hm:g.nodes.length=m
 hm2:g.rels.length=m2
 m60:m<=60
 m60':m2<=60
 len:s.labels.length=lm/\s.types.length=tm/\s.ends.length=em/\s.keys.length=km/\s.nodes=(m:Int)/\s.rels=(m2:Int)
 ok:Zt5 g s
 fit:Zpt txG g 900000 3000
 cb:Jfb s
 bx:Zxq sb (.int .i64 (m:Int)) (.int .i64 (m2:Int)) (.slice la lm lc) (.slice ta tm tc) (.slice ea em ec) (.slice ka km kc) W5
 sl:Zc0 W5.heap.size W5 (.slice la lm lc) (.slice ta tm tc) (.slice ea em ec) (.slice ka km kc) s
 rg:Rec W5 w.heap.size #[.slice na m nc,.slice ra m2 rc,.int .i64 nn,.int .i64 nr] 25
 b5:Below w.heap.size w W5
 he:Zyf w
 hg:Zp B w (.agg #[.slice na m nc,.slice ra m2 rc,.int .i64 nn,.int .i64 nr]) g
 hr:Zgd B w (.slice ra m2 rc) g.rels
section
variable {g:Zx} {s:Zak} {B sb m m2 lm tm em km nc rc lc tc ec kc:Nat} {na ra la ta ea ka:Option Addr} {nn nr:Int} {w W5:World}
theorem Zj8.vs (C:Zj8 g s B sb m m2 lm tm em km nc rc lc tc ec kc na ra la ta ea ka nn nr w W5) (c d f j:Value):Za4 s c d f j=.agg #[.int .i64 (m:Int),.int .i64 (m2:Int),c,d,f,j]:=by
 unfold Za4;rw [C.len.2.2.2.2.1,C.len.2.2.2.2.2]
abbrev Ji5 (s:Zak):Prop:=Ze2 s.nodes=s.nodes/\Zcf s []=s.rels/\(∀ x ∈ s.types,Zcf s [x.1,x.1]=x.2)/\(∀ x ∈ s.labels,Zau s [x.1]=x.2)/\(∀ x ∈ s.keys,x.2.2.1<=Zau s [x.1]/\1<=Zr0 s x.1 x.2.1)/\∀ x ∈ s.ends,x.2.2.2<=Zcf s [x.1]/\Zb7 s x.2.1 x.2.2.1 [x.1]=x.2.2.2
theorem Zj8.ha (C:Zj8 g s B sb m m2 lm tm em km nc rc lc tc ec kc na ra la ta ea ka nn nr w W5):Ji5 s:=C.ok.asks (by have:=C.hm;have:=C.m60;omega) (by have:=C.hm2;have:=C.m60';omega) C.fit.ll
theorem Zj8.h20 (C:Zj8 g s B sb m m2 lm tm em km nc rc lc tc ec kc na ra la ta ea ka nn nr w W5) (W:World) (x:ByteArray) (hb:Below W5.heap.size W5 W) (b:okS x):Calls Tryz.prog 20 #[.agg #[.int .i64 (m:Int),.int .i64 (m2:Int),.slice la lm lc,.slice ta tm tc,.slice ea em ec,.slice ka km kc],.slice (some ⟨W.heap.size,0,none⟩) 2 2] (W.alloc (.cells #[.string x,.string x] 9)) fun e w'=>e=.returned (.int .i64 (Zcf s [x,x]))/\Below (W.alloc (.cells #[.string x,.string x] 9)).heap.size (W.alloc (.cells #[.string x,.string x] 9)) w':=by
 have hn:=Zc W (.cells #[.string x,.string x] 9)
 have h:=Zpv s _ _ _ _ _ [x,x] _ _ (Nat.le_refl _) (C.sl.up (Below.on hb hn) (Below.on hb hn).size) (Zbb (k:=1) (enc:=Zap) (fun _=>rfl) W [x,x] #[.string x,.string x] 9 rfl (by simp)) (fun y a=>by simp only [List.mem_cons,List.not_mem_nil,or_false,or_self] at a;rw [a];exact b) (by simp)
 rwa [C.vs] at h
theorem Zj8.h22 (C:Zj8 g s B sb m m2 lm tm em km nc rc lc tc ec kc na ra la ta ea ka nn nr w W5) (W:World) (x y:ByteArray) (o:Bool) (hb:Below W5.heap.size W5 W) (b:okS x) (a:okS y):Calls Tryz.prog 22 #[.agg #[.int .i64 (m:Int),.int .i64 (m2:Int),.slice la lm lc,.slice ta tm tc,.slice ea em ec,.slice ka km kc],.string x,.string y,.bool o] W fun e w'=>e=.returned (.int .i64 (Zb7 s y o [x]))/\Below W.heap.size W w':=by
 have h:=Zxr s _ _ _ _ x y o _ W hb.size (C.sl.keep hb) b a
 rwa [C.vs] at h
theorem Zj8.h39 (C:Zj8 g s B sb m m2 lm tm em km nc rc lc tc ec kc na ra la ta ea ka nn nr w W5) (W:World) (i:Int) (hb:Below W5.heap.size W5 W):Calls Tryz.prog 39 #[.agg #[.slice na m nc,.slice ra m2 rc,.int .i64 nn,.int .i64 nr],.int .i64 i] W fun e w'=>e=.returned (.int .i64 ((Zt g.nodes i).length:Int))/\Below W.heap.size W w' :=
 Zqs g i _ B W (Nat.le_trans C.hB (Below.on C.b5 hb).size) (C.hg.below ((Below.on C.b5 hb).mono C.hB)) (by have:=C.hm;have:=C.m60;omega)
theorem Zj8.h10 (C:Zj8 g s B sb m m2 lm tm em km nc rc lc tc ec kc na ra la ta ea ka nn nr w W5) (W:World) (hb:Below W5.heap.size W5 W):Calls Tryz.prog 10 #[] W fun e w'=>e=.returned (.bool true)/\Below W.heap.size W w' :=
 Zqe W (C.he.e.below (Below.on C.b5 hb) C.he.e.room)
end
end Go.Proofs.YthfilnflgahcjaaGreatDoor

