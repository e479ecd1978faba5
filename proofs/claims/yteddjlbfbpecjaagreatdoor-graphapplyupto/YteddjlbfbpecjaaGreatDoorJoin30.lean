/- A graph is told, in memory of its own; a graph that was made tells what it was made of. -/
import Derived.Test.YteddjlbfbpecjaaGreatDoorJoin27
import Derived.Test.YteddjlbfbpecjaaGreatDoorJoin29
import Derived.Test.YteddjlbfbpecjaaGreatDoorJoin28
namespace Go.Proofs.YteddjlbfbpecjaaGreatDoor
section
open Go.RowKit Go.Shelf
set_option linter.all false
attribute [local go_sem] Oper.semAt_some
def Jfc (w:World) (g:Zy) (e:Ending) (w':World):Prop:=∃ v,e=.returned v∧Zcy w.heap.size w'.heap.size w' v g∧Below w.heap.size w w'
theorem Zcy.keep {lo B:Nat} {w w':World} {v:Value} {g:Zy} (hk:Zcc lo B w w') (h:Zcy lo B w v g):Zcy lo B w' v g:=by
 obtain ⟨nv,rv,e,h1,h2⟩:=h
 exact ⟨nv,rv,e,h1.keep hk,h2.keep hk⟩
theorem Zcy.mono {lo lo' B B':Nat} {w:World} {v:Value} {g:Zy} (hl:lo'≤lo) (hB:B≤B') (h:Zcy lo B w v g):Zcy lo' B' w v g:=by
 obtain ⟨nv,rv,e,h1,h2⟩:=h
 exact ⟨nv,rv,e,h1.mono hl hB,h2.mono hl hB⟩
set_option maxRecDepth 100000 in
set_option maxHeartbeats 8000000 in
theorem Zxr {w:World} {p:GP} {nn nr:Int} {N R F T:List (Int × Value)} (h:GS w p nn nr N R F T) (B:Nat) (hB:B≤w.heap.size) (ns:List Zp) (rs:List Jj) (ht:Ze1 B w N R ns rs)
  (hn:∀ x ∈ ns,x.labels.length≤2000000∧x.props.length≤2000000∧∀ q ∈ x.props,q.2.total≤2000000) (hu:∀ x ∈ rs,x.props.length≤2000000∧∀ q ∈ x.props,q.2.total≤2000000) :
  Calls Tryz.prog 19 #[p.val] w (Jfc w ⟨ns,rs,nn,nr⟩):=by
 have HTh:Hid (∀ W,Below w.heap.size w W→Calls Tryz.prog 18 #[.pointer (some ⟨p.g,0,none⟩)] W fun e w'=>e=.returned (.bool true)∧w'=W):=fun W hW=>Zcq (h.below hW)
 have HTl:=Zb (fun W (hW:Below w.heap.size w W)=>Zp0 (h.below hW).ps B (Nat.le_trans hB hW.size) ns rs (ht.below (hW.mono hB)))
 have h1:ns.length≤2000000:=by rw [ht.nlen];exact ht.nl
 have h2:rs.length≤2000000:=by rw [ht.rlen];exact ht.rl
 have HCo:=Zb (fun v W (hW:Zq W.heap.size W v ⟨ns,rs,nn,nr⟩)=>Zfp ⟨ns,rs,nn,nr⟩ v W.heap.size W (Nat.le_refl _) hW h1 h2 hn hu)
 clear h ht hn hu h1 h2
 unfold GP.val
 go_enter Tryz.func19,Tryz.ntmps19
 go_upto_region 1 with fail
 generalize hW1:World.alloc _ _=W1
 have HB1:Hid (Below w.heap.size w W1):=by rw [← hW1];exact (Below.refl _ _).alloc (Nat.le_refl _) _
 have HZ1:Hid (Rec W1 w.heap.size #[.slice none 0 0,.slice none 0 0,.int .i64 0,.int .i64 0] 25):=by rw [← hW1];exact Zl _ _ _
 clear hW1
 go_wp2_with fail
 refine (HTh.out W1 HB1.out).mono ?_
 rintro e w2 ⟨rfl,hw2⟩
 rw [hw2]
 clear hw2
 go_wp2_with fail
 refine (HTl.out W1 HB1.out).mono ?_
 rintro e w3 ⟨v3,rfl,hg3,hb3⟩
 have HB3:=Zb (Za HB1.out hb3)
 have HZ3:=Zb (HZ1.out.below hb3 HZ1.out.lt)
 have HC3:=Zb (HCo.out v3 w3 hg3)
 obtain ⟨na,nc,ra,rc,rfl,hq1,hq2⟩:=hg3
 clear hb3 hq1 hq2
 go_wp2_with fail
 refine HC3.out.mono ?_
 rintro e w4 ⟨v4,rfl,hg4,hb4⟩
 have HB4:=Zb (Za HB3.out hb4)
 have HZ4:=Zb (HZ3.out.below hb4 HZ3.out.lt)
 have HF4:=Zb hg4
 have hs3:w.heap.size<w3.heap.size:=HZ3.out.lt
 obtain ⟨nv,rv,rfl,hq1,hq2⟩:=hg4
 obtain ⟨na4,nc4,rfl,_⟩:=hq1
 obtain ⟨ra4,rc4,rfl,_⟩:=hq2
 clear hb4 HC3
 have b0:=HZ4.out.cell 0 rfl
 have b1:=HZ4.out.cell 1 rfl
 have b2:=HZ4.out.cell 2 rfl
 have b3:=HZ4.out.cell 3 rfl
 have y0:=HZ4.out.z 0
 have y1:=HZ4.out.z 1
 have y2:=HZ4.out.z 2
 have y3:=HZ4.out.z 3
 go_wp2_with fail
 generalize hW9:World.setCell _ _ _=W9
 have HR9:Hid (Rec W9 w.heap.size #[.slice na4 ns.length nc4,.slice ra4 rs.length rc4,.int .i64 nn,.int .i64 nr] 25):=by rw [← hW9];exact (((HZ4.out.set 0 _).set 1 _).set 2 _).set 3 _
 have HB9:Hid (Below w.heap.size w W9):=by rw [← hW9];exact (((HB4.out.setCell (Nat.le_refl _) _).setCell (Nat.le_refl _) _).setCell (Nat.le_refl _) _).setCell (Nat.le_refl _) _
 have hs9:W9.heap.size=w4.heap.size:=by rw [← hW9];simp
 have HH9:Hid (∀ b,w.heap.size≠b→W9.heap[b]?=w4.heap[b]?):=fun b hb=>by
  rw [← hW9]
  repeat rw [Below.heap_setCell _ _ _ _ (Ne.symm hb)]
 have HF9:Hid (Zcy w.heap.size W9.heap.size W9 (.agg #[.slice na4 ns.length nc4,.slice ra4 rs.length rc4,.int .i64 nn,.int .i64 nr]) ⟨ns,rs,nn,nr⟩):=by
  rw [hs9]
  refine Zcy.mono (Nat.le_of_lt hs3) (Nat.le_refl _) (Zcy.keep ?_ HF4.out)
  intro b o h1 h2
  exact ⟨World.cell?_of_block (HH9.out b (by omega)),by unfold World.frozen?;rw [HH9.out b (by omega)]⟩
 clear hW9
 have q0:=HR9.out.cell 0 rfl
 have q1:=HR9.out.cell 1 rfl
 have q2:=HR9.out.cell 2 rfl
 have q3:=HR9.out.cell 3 rfl
 refine bodyPost_ret (v:=.agg #[.slice na4 ns.length nc4,.slice ra4 rs.length rc4,.int .i64 nn,.int .i64 nr]) ?_ rfl ⟨_,rfl,HF9.out,HB9.out⟩
 simp [results,Tryz.results19,go_sem,q0,q1,q2,q3]
theorem Zfz {next:Int}:∀ {ks:List Int} {l:Int},Zav next l ks=true→ks.Pairwise (·<·)
 | [],l,h=>List.Pairwise.nil
 | y::r,l,h=>by
  rw [Zav] at h
  simp only [Bool.and_eq_true,Bool.not_eq_true',decide_eq_false_iff_not] at h
  obtain ⟨h1,h2,h3⟩:=h
  have h4:=(Zdz h3).1
  exact List.pairwise_cons.2 ⟨fun x hx=>by have:=h4 x hx;omega,Zfz h3⟩
theorem Zpd {α:Type} {key:α→Int} {L:World→Value→α→Prop} {w:World} {N:List (Int × Value)} {xs:List α} (h:Zm1 key L w N xs):N.map Prod.fst=xs.map key:=by
 apply List.ext_getElem?
 intro i
 rw [List.getElem?_map,List.getElem?_map]
 by_cases hi:i<xs.length
 ·obtain ⟨x,hx⟩:∃ q,xs[i]?=some q:=⟨_,List.getElem?_eq_getElem hi⟩
  obtain ⟨v,h1,_⟩:=h.2 i x hx
  rw [hx,h1];rfl
 ·rw [List.getElem?_eq_none (by rw [h.1];omega),List.getElem?_eq_none (by omega)];rfl
theorem Zxs {α:Type} {key:α→Int} {L:World→Value→α→Prop} {w:World} {N:List (Int × Value)} {xs:List α} (h:Zm1 key L w N xs):∀ x ∈ xs,∃ v,(key x,v) ∈ N∧L w v x:=by
 intro x hx
 obtain ⟨i,hi⟩:=List.getElem?_of_mem hx
 obtain ⟨v,h1,h2⟩:=h.2 i x hi
 exact ⟨v,List.mem_of_getElem? h1,h2⟩
end
section
open Go.RowKit Go.Shelf Go.Maps
set_option linter.all false
theorem Zy6 {t e:TypeId} (ht:Tryz.prog.underlying t=some (.map 2 e)) {w:World} {b:Nat} {es:List (Int × Value)} (h:MI w b es) (hd:(es.map Prod.fst).Nodup) (k:Int) (v:Value) (hk:I64 k) :
  ∃ w' es',(Instr.mapUpdate t (.map (some b)) (.int .i64 k) v).run Tryz.prog w=.ok () w'∧MI w' b es'∧(es'.map Prod.fst).Nodup∧(∀ q,q ∈ es'↔q=(k,v)∨q ∈ es∧q.1≠k)∧(∀ i,i≠b→w'.heap[i]?=w.heap[i]?)∧Below b w w':=by
 by_cases hin:∃ p ∈ es,p.1=k
 ·obtain ⟨⟨k',v0⟩,hp,hpk⟩:=hin
  simp only at hpk
  subst hpk
  obtain ⟨j,hj⟩:=List.getElem?_of_mem hp
  have hu:∀ i p,es[i]?=some p→p.1=k'→i=j:=fun i p hi hk'=>by
   obtain ⟨a,u⟩:=p
   simp only at hk'
   subst hk'
   exact Zha hd hi hj
  obtain ⟨w',r1,r2,_,r4,r5⟩:=Zvt ht h j k' v0 v hk hj hu
  have hjl:=(List.getElem?_eq_some_iff.1 hj).1
  have hkeys:(es.set j (k',v)).map Prod.fst=es.map Prod.fst:=by
   rw [List.map_set]
   apply List.ext_getElem?
   intro i
   rw [List.getElem?_set]
   split
   ·rename_i e
    subst e
    rw [List.getElem?_map,hj]
    simp [hjl]
   ·rfl
  refine ⟨w',_,r1,r2,by rw [hkeys];exact hd,fun q=>⟨fun hq=>?_,fun hq=>?_⟩,r4,r5⟩
  ·obtain ⟨i,hi⟩:=List.getElem?_of_mem hq
   rw [List.getElem?_set] at hi
   split at hi
   ·exact .inl (by simpa using hi.symm)
   ·rename_i e
    exact .inr ⟨List.mem_of_getElem? hi,fun hk'=>e (hu i q hi hk').symm⟩
  ·rcases hq with rfl | ⟨h1,h2⟩
   ·exact List.mem_of_getElem? (i:=j) (by rw [List.getElem?_set];simp [hjl])
   ·obtain ⟨i,hi⟩:=List.getElem?_of_mem h1
    refine List.mem_of_getElem? (i:=i) ?_
    rw [List.getElem?_set]
    split
    ·rename_i e
     subst e
     rw [hj] at hi
     exact absurd (by rw [← Option.some.inj hi]) h2
    ·exact hi
 ·have hn:∀ p ∈ es,p.1≠k:=fun p hp e=>hin ⟨p,hp,e⟩
  obtain ⟨w',r1,r2,_,r4,r5⟩:=Zf6 ht h k v hk hn
  refine ⟨w',_,r1,r2,?_,fun q=>⟨fun hq=>?_,fun hq=>?_⟩,r4,r5⟩
  ·rw [List.map_append]
   refine List.nodup_append.2 ⟨hd,by simp,fun a ha b hb=>?_⟩
   obtain ⟨p,hp,rfl⟩:=List.mem_map.1 ha
   simp only [List.map_cons,List.map_nil,List.mem_cons,List.not_mem_nil,or_false] at hb
   rw [hb]
   exact hn p hp
  ·rcases List.mem_append.1 hq with h1 | h1
   ·exact .inr ⟨h1,hn q h1⟩
   ·exact .inl (by simpa using h1)
  ·rcases hq with rfl | ⟨h1,_⟩
   ·exact List.mem_append_right _ (by simp)
   ·exact List.mem_append_left _ h1
theorem Zy7 {t e ty:TypeId} (ht:Tryz.prog.underlying t=some (.map 2 e)) {w:World} {b:Nat} {es:List (Int × Value)} (h:MI w b es) (hd:(es.map Prod.fst).Nodup) (k:Int) (hk:I64 k) :
  ∃ w' es',(Builtin.delete_ #[t,2] ty #[.map (some b),.int .i64 k]).run Tryz.prog w=.ok (.tuple #[]) w'∧MI w' b es'∧(es'.map Prod.fst).Nodup∧(∀ q,q ∈ es'↔q ∈ es∧q.1≠k)∧(∀ i,i≠b→w'.heap[i]?=w.heap[i]?)∧Below b w w':=by
 by_cases hin:∃ p ∈ es,p.1=k
 ·obtain ⟨⟨k',v0⟩,hp,hpk⟩:=hin
  simp only at hpk
  subst hpk
  obtain ⟨j,hj⟩:=List.getElem?_of_mem hp
  have hu:∀ i p,es[i]?=some p→p.1=k'→i=j:=fun i p hi hk'=>by
   obtain ⟨a,u⟩:=p
   simp only at hk'
   subst hk'
   exact Zha hd hi hj
  obtain ⟨w',r1,r2,_,r4,r5⟩:=Zp4 (ty:=ty) ht h j k' v0 hk hj hu
  refine ⟨w',_,r1,r2,?_,fun q=>⟨fun hq=>?_,fun hq=>?_⟩,r4,r5⟩
  ·rw [Zf7]
   exact hd.sublist (List.eraseIdx_sublist _ _)
  ·refine ⟨List.mem_of_mem_eraseIdx hq,fun hk'=>?_⟩
   obtain ⟨i,hi,hi2⟩:=List.mem_eraseIdx_iff_getElem?.1 hq
   exact hi (hu i q hi2 hk')
  ·obtain ⟨i,hi⟩:=List.getElem?_of_mem hq.1
   refine List.mem_eraseIdx_iff_getElem?.2 ⟨i,fun e=>?_,hi⟩
   subst e
   rw [hj] at hi
   exact hq.2 (by rw [← Option.some.inj hi])
 ·have hn:∀ p ∈ es,p.1≠k:=fun p hp e=>hin ⟨p,hp,e⟩
  refine ⟨w,es,?_,h,hd,fun q=>⟨fun hq=>⟨hq,hn q hq⟩,fun hq=>hq.1⟩,fun i _=>rfl,Below.refl _ _⟩
  obtain ⟨ar,clock,h1,h2,h3,hS⟩:=h
  have K:=int_keyed (P:=Tryz.prog) Tryz.underlying2
  have hkey:=keyOf_int_mk (P:=Tryz.prog) Tryz.underlying2 hk
  rcases K.find w hkey ar.toList (Zfk h2 h3) with ⟨f1,f2⟩ | ⟨i,e0,f1,f2,f3⟩
  ·have hlt:b<w.heap.size:=(Array.getElem?_eq_some_iff.1 h1).1
   have he:w.heap.setIfInBounds b (.map ar clock)=w.heap:=by
    apply Array.ext_getElem?
    intro i
    by_cases hib:i=b
    ·subst hib;rw [h1];simp [hlt]
    ·rw [Array.getElem?_setIfInBounds_ne (Ne.symm hib)]
   have hs:=MapKept.run_setObj_map (P:=Tryz.prog) (.map ar clock) h1
   rw [he] at hs
   simp [Builtin.delete_,run_underlying ht,MapKept.run_getObj_map h1,K.check w _ hkey,f1,hs,Result.andThen]
  ·exfalso
   obtain ⟨p,hp,e1,_⟩:=Zp3 h2 (List.mem_of_getElem? f2)
   rw [f3] at e1
   have e2:k=p.1:=by injection e1
   exact hn p hp e2.symm
structure Zdh {α:Type} (key:α→Int) (L:Value→α→Prop) (N:List (Int × Value)) (xs:List α):Prop where
 nd:(N.map Prod.fst).Nodup
 rise:(xs.map key).Pairwise (·<·)
 mem:∀ k,k ∈ N.map Prod.fst↔k ∈ xs.map key
 lie:∀ x ∈ xs,∃ v,(key x,v) ∈ N∧L v x
theorem Zer {α:Type} {key:α→Int} {n:α}:∀ {xs:List α},(xs.map key).Pairwise (·<·)→∀ x,x ∈ Zcf key n xs↔x=n∨x ∈ xs∧key x≠key n
 | [],_,x=>by simp [Zcf]
 | a::r,h,x=>by
  rw [List.map_cons,List.pairwise_cons] at h
  have hr:∀ y ∈ r,key a<key y:=fun y hy=>h.1 _ (List.mem_map_of_mem hy)
  rw [Zcf]
  split
  ·rename_i h1
   rw [List.mem_cons,Zer h.2 x,List.mem_cons]
   constructor
   ·rintro (rfl | rfl | ⟨h2,h3⟩)
    ·exact .inr ⟨.inl rfl,by omega⟩
    ·exact .inl rfl
    ·exact .inr ⟨.inr h2,h3⟩
   ·rintro (rfl | ⟨rfl | h2,h3⟩)
    ·exact .inr (.inl rfl)
    ·exact .inl rfl
    ·exact .inr (.inr ⟨h2,h3⟩)
  ·split
   ·rename_i h1 h2
    rw [List.mem_cons,List.mem_cons]
    constructor
    ·rintro (rfl | h3)
     ·exact .inl rfl
     ·exact .inr ⟨.inr h3,by have:=hr x h3;omega⟩
    ·rintro (rfl | ⟨rfl | h3,h4⟩)
     ·exact .inl rfl
     ·exact absurd h2 h4
     ·exact .inr h3
   ·rename_i h1 h2
    rw [List.mem_cons,List.mem_cons]
    constructor
    ·rintro (rfl | rfl | h3)
     ·exact .inl rfl
     ·exact .inr ⟨.inl rfl,h2⟩
     ·exact .inr ⟨.inr h3,by have:=hr x h3;omega⟩
    ·rintro (rfl | ⟨h3,_⟩)
     ·exact .inl rfl
     ·exact .inr h3
theorem Zmq {α:Type} {key:α→Int} {n:α}:∀ {xs:List α},(xs.map key).Pairwise (·<·)→((Zcf key n xs).map key).Pairwise (·<·)
 | [],_=>by simp [Zcf]
 | a::r,h=>by
  have h0:=h
  rw [List.map_cons,List.pairwise_cons] at h
  have hr:∀ y ∈ r,key a<key y:=fun y hy=>h.1 _ (List.mem_map_of_mem hy)
  rw [Zcf]
  split
  ·rename_i h1
   rw [List.map_cons,List.pairwise_cons]
   refine ⟨fun k hk=>?_,Zmq h.2⟩
   obtain ⟨y,hy,rfl⟩:=List.mem_map.1 hk
   rcases (Zer h.2 y).1 hy with rfl | ⟨h2,_⟩
   ·exact h1
   ·exact hr y h2
  ·split
   ·rename_i h1 h2
    rw [List.map_cons,List.pairwise_cons]
    refine ⟨fun k hk=>?_,h.2⟩
    obtain ⟨y,hy,rfl⟩:=List.mem_map.1 hk
    have:=hr y hy;omega
   ·rename_i h1 h2
    rw [List.map_cons,List.pairwise_cons]
    refine ⟨fun k hk=>?_,h0⟩
    obtain ⟨y,hy,rfl⟩:=List.mem_map.1 hk
    rcases List.mem_cons.1 hy with rfl | hy
    ·omega
    ·have:=hr y hy;omega
theorem Zdh.put {α:Type} {key:α→Int} {L:Value→α→Prop} {N N':List (Int × Value)} {xs:List α} (h:Zdh key L N xs) (x:α) (v:Value) (hv:L v x) (hd:(N'.map Prod.fst).Nodup) (hm:∀ q,q ∈ N'↔q=(key x,v)∨q ∈ N∧q.1≠key x):Zdh key L N' (Zcf key x xs):=by
 refine ⟨hd,Zmq h.rise,fun k=>⟨fun hk=>?_,fun hk=>?_⟩,fun y hy=>?_⟩
 ·obtain ⟨q,hq,rfl⟩:=List.mem_map.1 hk
  rcases (hm q).1 hq with rfl | ⟨h1,h2⟩
  ·exact List.mem_map.2 ⟨x,(Zer h.rise x).2 (.inl rfl),rfl⟩
  ·obtain ⟨y,hy,e⟩:=List.mem_map.1 ((h.mem q.1).1 (List.mem_map_of_mem h1))
   exact List.mem_map.2 ⟨y,(Zer h.rise y).2 (.inr ⟨hy,by rw [e];exact h2⟩),e⟩
 ·obtain ⟨y,hy,rfl⟩:=List.mem_map.1 hk
  rcases (Zer h.rise y).1 hy with rfl | ⟨h1,h2⟩
  ·exact List.mem_map.2 ⟨_,(hm _).2 (.inl rfl),rfl⟩
  ·obtain ⟨u,hu,_⟩:=h.lie y h1
   exact List.mem_map.2 ⟨_,(hm _).2 (.inr ⟨hu,h2⟩),rfl⟩
 ·rcases (Zer h.rise y).1 hy with rfl | ⟨h1,h2⟩
  ·exact ⟨v,(hm _).2 (.inl rfl),hv⟩
  ·obtain ⟨u,hu,hl⟩:=h.lie y h1
   exact ⟨u,(hm _).2 (.inr ⟨hu,h2⟩),hl⟩
theorem Zdh.out {α:Type} {key:α→Int} {L:Value→α→Prop} {N N':List (Int × Value)} {xs:List α} (h:Zdh key L N xs) (k:Int) (hd:(N'.map Prod.fst).Nodup) (hm:∀ q,q ∈ N'↔q ∈ N∧q.1≠k):Zdh key L N' (Zbc key k xs):=by
 have hmem:∀ y,y ∈ Zbc key k xs↔y ∈ xs∧key y≠k:=fun y=>by unfold Zbc;rw [List.mem_filter];simp
 refine ⟨hd,?_,fun j=>⟨fun hj=>?_,fun hj=>?_⟩,fun y hy=>?_⟩
 ·exact h.rise.sublist (List.Sublist.map _ List.filter_sublist)
 ·obtain ⟨q,hq,rfl⟩:=List.mem_map.1 hj
  obtain ⟨h1,h2⟩:=(hm q).1 hq
  obtain ⟨y,hy,e⟩:=List.mem_map.1 ((h.mem q.1).1 (List.mem_map_of_mem h1))
  exact List.mem_map.2 ⟨y,(hmem y).2 ⟨hy,by rw [e];exact h2⟩,e⟩
 ·obtain ⟨y,hy,rfl⟩:=List.mem_map.1 hj
  obtain ⟨h1,h2⟩:=(hmem y).1 hy
  obtain ⟨u,hu,_⟩:=h.lie y h1
  exact List.mem_map.2 ⟨_,(hm _).2 ⟨hu,h2⟩,rfl⟩
 ·obtain ⟨h1,h2⟩:=(hmem y).1 hy
  obtain ⟨u,hu,hl⟩:=h.lie y h1
  exact ⟨u,(hm _).2 ⟨hu,h2⟩,hl⟩
theorem Zdh.turn {α:Type} {key:α→Int} {L L':Value→α→Prop} {N:List (Int × Value)} {xs:List α} (h:Zdh key L N xs) (hL:∀ v x,L v x→L' v x):Zdh key L' N xs:=⟨h.nd,h.rise,h.mem,fun x hx=>by obtain ⟨v,h1,h2⟩:=h.lie x hx;exact ⟨v,h1,hL v x h2⟩⟩
theorem Zpx {α:Type} {key:α→Int} {L:World→Value→α→Prop} {w:World} {N:List (Int × Value)} {xs:List α} (h:Zm1 key L w N xs) (hr:(xs.map key).Pairwise (·<·)):Zdh key (L w) N xs :=
 ⟨by rw [Zpd h];exact hr.imp fun h=>by omega,hr,fun k=>by rw [Zpd h],Zxs h⟩
theorem Zpy  : ∀ (a b:List Int),a.Pairwise (·<·)→b.Pairwise (·<·)→(∀ k,k ∈ a↔k ∈ b)→a=b
 | [],[],_,_,_=>rfl
 | [],y::t,_,_,h=>by have:=(h y).2 List.mem_cons_self;simp at this
 | x::r,[],_,_,h=>by have:=(h x).1 List.mem_cons_self;simp at this
 | x::r,y::t,ha,hb,h=>by
  rw [List.pairwise_cons] at ha hb
  have e:x=y:=by
   rcases List.mem_cons.1 ((h x).1 List.mem_cons_self) with e | h1
   ·exact e
   ·rcases List.mem_cons.1 ((h y).2 List.mem_cons_self) with e | h2
    ·exact e.symm
    ·have:=hb.1 x h1
     have:=ha.1 y h2
     omega
  subst e
  rw [Zpy r t ha.2 hb.2 fun k=>⟨fun hk=>?_,fun hk=>?_⟩]
  ·rcases List.mem_cons.1 ((h k).1 (List.mem_cons_of_mem _ hk)) with e | h1
   ·have:=ha.1 k hk;omega
   ·exact h1
  ·rcases List.mem_cons.1 ((h k).2 (List.mem_cons_of_mem _ hk)) with e | h1
   ·have:=hb.1 k hk;omega
   ·exact h1
theorem Zn3 {l:List Int} (h:l.Nodup):(Ze4 l).Pairwise (·<·):=by
 have h1:(Ze4 l).Pairwise (fun a b=>decide (a≤b)=true):=List.pairwise_mergeSort (fun a b c h1 h2=>by simp at *;omega) (fun a b=>by simp;omega) l
 have h2:(Ze4 l).Nodup:=(List.mergeSort_perm l _).nodup_iff.2 h
 exact (h1.and h2).imp fun h=>by have:=h.1;have:=h.2;simp at *;omega
theorem Zdh.order {α:Type} {key:α→Int} {L:Value→α→Prop} {N:List (Int × Value)} {xs:List α} (h:Zdh key L N xs):xs.map key=Ze4 (N.map Prod.fst) :=
 Zpy _ _ h.rise (Zn3 h.nd) fun k=>by rw [← h.mem k];unfold Ze4;rw [List.mem_mergeSort]
theorem Zdh.len {α:Type} {key:α→Int} {L:Value→α→Prop} {N:List (Int × Value)} {xs:List α} (h:Zdh key L N xs):N.length=xs.length:=by
 have:=congrArg List.length h.order
 rw [Zil] at this
 simpa using this.symm
theorem Zdh.uniq {α:Type} {key:α→Int} {L:Value→α→Prop} {N:List (Int × Value)} {xs:List α} (h:Zdh key L N xs):Zg1 N:=by
 intro a ha b hb e
 obtain ⟨i,hi⟩:=List.getElem?_of_mem ha
 obtain ⟨j,hj⟩:=List.getElem?_of_mem hb
 obtain ⟨k,u⟩:=a
 obtain ⟨k',u'⟩:=b
 simp only at e
 subst e
 have:=Zha h.nd hi hj
 subst this
 rw [hi] at hj
 injection hj with hj
 injection hj
theorem Zvd {B:Nat} {w:World} {N R:List (Int × Value)} {ns:List Zp} {rs:List Jj} (hn:Zdh Zp.id (Zv B w) N ns) (hr:Zdh Jj.id (Jc B w) R rs) (h1:ns.length≤2000000) (h2:rs.length≤2000000) (ht:∀ r ∈ rs,r.type.size≤maxLen):Ze1 B w N R ns rs :=
 ⟨by rw [hn.len];exact h1,by rw [hr.len];exact h2,hn.order,hr.order,hn.uniq,hr.uniq,hn.lie,hr.lie,ht⟩
end
