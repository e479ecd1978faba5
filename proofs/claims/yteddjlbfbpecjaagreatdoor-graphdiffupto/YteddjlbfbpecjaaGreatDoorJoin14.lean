import Derived.Test.YteddjlbfbpecjaaGreatDoorJoin13
namespace Go.Proofs.YteddjlbfbpecjaaGreatDoor
set_option linter.all false
section
open Go.RowKit Go.Shelf
attribute [local go_sem] Oper.semAt_some
def Zda (B:Nat) (w:World) (b off:Nat) (q:ByteArray × Zi):Prop :=
 w.cell? ⟨b,off,none⟩=some (.string q.1)/\q.1.size<=maxLen/\∃ v0 v1 v2 v3 v4 v5,(w.cell? ⟨b,off+1,none⟩=some v0/\w.cell? ⟨b,off+2,none⟩=some v1/\w.cell? ⟨b,off+3,none⟩=some v2/\w.cell? ⟨b,off+4,none⟩=some v3/\w.cell? ⟨b,off+5,none⟩=some v4/\w.cell? ⟨b,off+6,none⟩=some v5)/\Zaw B w (.agg #[v0,v1,v2,v3,v4,v5]) q.2
def Jd (B:Nat) (w:World) (v:Value) (ps:List (ByteArray × Zi)):Prop :=
 ∃ f d,v=.slice f ps.length d/\ps.length<=d/\d<=9223372036854775807/\(ps=[]\/∃ b off,f=some ⟨b,off,none⟩/\b<B/\∀ i q,ps[i]?=some q->Zda B w b (off+i*7) q)
theorem Zda.below {B:Nat} {w w':World} (h:Below B w w') {b off:Nat} (c:b<B) {q:ByteArray × Zi} (g:Zda B w b off q):Zda B w' b off q:=by
 obtain ⟨h0,h1,v0,v1,v2,v3,v4,v5,⟨c0,c1,c2,c3,c4,c5⟩,l⟩:=g
 exact ⟨(h.cell (p:=⟨b,off,none⟩) c).trans h0,h1,v0,v1,v2,v3,v4,v5,⟨(h.cell (p:=⟨b,off+1,none⟩) c).trans c0,(h.cell (p:=⟨b,off+2,none⟩) c).trans c1,(h.cell (p:=⟨b,off+3,none⟩) c).trans c2,(h.cell (p:=⟨b,off+4,none⟩) c).trans c3,(h.cell (p:=⟨b,off+5,none⟩) c).trans c4,(h.cell (p:=⟨b,off+6,none⟩) c).trans c5⟩,l.below h⟩
theorem Jd.below {B:Nat} {w w':World} (h:Below B w w') {v:Value} {ps:List (ByteArray × Zi)} (k:Jd B w v ps):Jd B w' v ps:=by
 obtain ⟨f,d,e,h1,h2,h3⟩:=k
 exact ⟨f,d,e,h1,h2,h3.imp id fun ⟨b,off,e,c,m⟩=>⟨b,off,e,c,fun i q j=>(m i q j).below h c⟩⟩
end
section
open Go.RowKit Go.Shelf
attribute [local go_sem] Oper.semAt_some
theorem Zsr {w:World} {b:Nat} {ss:List ByteArray} (h:Zb1 w b ss) (s:ByteArray) (o:s.size<=maxLen) (D:s ∈ ss) :
  ∃ w',(Instr.mapUpdate 172 (.map (some b)) (.string s) (.agg #[])).run Tryz.prog w=.ok () w'/\Zb1 w' b ss/\w'.heap.size=w.heap.size/\(∀ k,k≠b->w'.heap[k]?=w.heap[k]?)/\Below b w w':=by
 obtain ⟨es,f,h1,h2,h3,y⟩:=h
 have v:b<w.heap.size:=(Array.getElem?_eq_some_iff.1 h1).1
 have K:=WideMaps.string_law (P:=Tryz.prog) Tryz.underlying9
 have d:=WideMaps.keyOf_string_mk (P:=Tryz.prog) Tryz.underlying9 o
 rcases K.find w d es.toList (Zn8 h2 y) with ⟨B,r⟩ | ⟨j,A,B,r,p⟩
 ·exfalso
  have:Value.string s ∈ es.toList.map (·.key):=by rw [h2];exact List.mem_map.2 ⟨s,D,rfl⟩
  obtain ⟨e,a,e1⟩:=List.mem_map.1 this
  exact r e a e1
 ·have t:=K.stays w d
  have g:es[j]?=some A:=by rw [<- Array.getElem?_toList];exact r
  have l:(Instr.mapUpdate 172 (.map (some b)) (.string s) (.agg #[])).run Tryz.prog w=.ok () { w with heap:=w.heap.setIfInBounds b (.map (es.modify j fun e=>{ e with key:=.string s,val:=.agg #[] }) f) }:=by
   simp [Instr.mapUpdate,run_underlying Tryz.underlying172',MapKept.run_getObj_map h1,K.check w false d,B,g,p,t,MapKept.run_setObj_map _ h1,Result.andThen]
  have n:∀ (i:Nat) (e:MapEntry),(es.modify j fun e=>{ e with key:=.string s,val:=.agg #[] })[i]?=some e->∃ u:MapEntry,es[i]?=some u/\e.key=u.key/\e.val=.agg #[]:=by
   intro i e a
   rw [Array.getElem?_modify] at a
   by_cases hij:j=i
   ·subst hij
    rw [if_pos rfl,g] at a
    simp only [Option.map_some,Option.some.injEq] at a
    subst a
    exact ⟨A,g,p.symm,rfl⟩
   ·rw [if_neg hij] at a
    exact ⟨e,a,rfl,h3 e (by rw [<- Array.getElem?_toList] at a;exact List.mem_of_getElem? a)⟩
  refine ⟨_,l,⟨es.modify j fun e=>{ e with key:=.string s,val:=.agg #[] },f,?_,?_,?_,y⟩,?_,?_,⟨rfl,rfl,rfl,?_,?_⟩⟩
  ·simp [v]
  ·rw [<- h2]
   refine List.ext_getElem? fun m=>?_
   simp only [List.getElem?_map,Array.getElem?_toList,Array.getElem?_modify]
   by_cases hmi:j=m
   ·subst hmi
    simp [g,p]
   ·simp [hmi]
  ·intro e a
   obtain ⟨i,z⟩:=List.getElem?_of_mem a
   rw [Array.getElem?_toList] at z
   obtain ⟨u,_,_,C⟩:=n i e z
   exact C
  ·simp
  ·intro q x
   simp [Array.getElem?_setIfInBounds_ne (Ne.symm x)]
  ·simp
  ·intro q x
   have:q≠b:=by omega
   simp [Array.getElem?_setIfInBounds_ne (Ne.symm this)]
open Classical in
noncomputable def Zia (ss:List ByteArray) (s:ByteArray):List ByteArray:=if s ∈ ss then ss else ss++[s]
theorem Zqi {w:World} {b:Nat} {ss:List ByteArray} (h:Zb1 w b ss) (s:ByteArray) (o:s.size<=maxLen) :
  ∃ w',(Instr.mapUpdate 172 (.map (some b)) (.string s) (.agg #[])).run Tryz.prog w=.ok () w'/\Zb1 w' b (Zia ss s)/\w'.heap.size=w.heap.size/\(∀ k,k≠b->w'.heap[k]?=w.heap[k]?)/\Below b w w':=by
 unfold Zia
 split
 ·exact Zsr h s o (by assumption)
 ·exact Jar h s o (by assumption)
theorem Zul {w:World} {b:Nat} {ss:List ByteArray} (h:Zb1 w b ss):∃ es c,w.heap[b]?=some (.map es c)/\es.size=ss.length:=by
 obtain ⟨es,c,h1,h2,_⟩:=h
 refine ⟨es,c,h1,?_⟩
 have:=congrArg List.length h2
 simpa using this
noncomputable def Zbw (ps:List (ByteArray × Zi)):List ByteArray:=(ps.map Prod.fst).foldl Zia []
theorem Zfz {ps:List (ByteArray × Zi)} {j:Nat} {q:ByteArray × Zi} (h:ps[j]?=some q):Zbw (ps.take (j+1))=Zia (Zbw (ps.take j)) q.1:=by
 unfold Zbw
 rw [List.take_add_one,h]
 simp
def Zle (q:ByteArray × Zi):Bool:=Ju q.1.data.toList&&((decide (checkN q.2=0)&&Zg3 q.2)||Zcu q.2 Zgp)
noncomputable def Zbx (ps:List (ByteArray × Zi)):Bool:=ps.all Zle&&((Zbw ps).length==ps.length)
end
section
open Go.RowKit Go.Shelf
attribute [local go_sem] Oper.semAt_some
set_option maxRecDepth 100000 in
set_option maxHeartbeats 8000000 in
theorem Zha (v:Value) (ps:List (ByteArray × Zi)) (B:Nat) (w:World) (hB:B<=w.heap.size) (c8:3<=B) (hp:Jd B w v ps) (hs:∀ q ∈ ps,q.1.size<=140737488355328/\Zas q.2) (hE:Env w) :
  Calls Tryz.prog 86 #[v] w fun e w'=>e=.returned (.bool (Zbx ps))/\Below w.heap.size w w':=by
 have b8:∀ W:World,(Instr.makeMap 172 none).run Tryz.prog W=.ok (.map (some W.heap.size)) (W.alloc (.map #[] 0)):=fun W=>rfl
 have HP:=Zb hp
 have HS:=Zb hs
 have HE:=Zb hE
 obtain ⟨pa,pc,rfl,h1,h2,_⟩:=hp
 obtain ⟨m,hm⟩:∃ m,ps.length=m:=⟨_,rfl⟩
 rw [hm] at HP h1 |-
 have HM:=Zb hm
 clear hm hs hE
 go_enter Tryz.func86,Tryz.ntmps86
 go_upto_region 2 with fail
 generalize S:World.alloc _ _=W1
 have c6:Hid (Below w.heap.size w W1):=by rw [<- S];exact (Below.refl _ _).alloc (Nat.le_refl _) _
 have b6:Hid (Zb1 W1 w.heap.size []):=by rw [<- S];exact Zxb w
 clear S b8
 go_wp2_with fail
 go_loopw [9] (fun i wr=>∃ j:Nat,j<=m/\i=.int .i64 j/\Below w.heap.size w wr/\Zb1 wr w.heap.size (Zbw (ps.take j))/\(ps.take j).all Zle=true) (fun i _=>m - (intOf i).toNat)
 case atStart=>exact ⟨0,Nat.zero_le _,rfl,c6.out,b6.out,rfl⟩
 case round =>
  obtain ⟨j,hj,rfl,hb,o,a8⟩:=hrel
  have n:=Zb hb
  have s:=Zb o
  have b2:=Zb a8
  clear hb o a8
  by_cases hlt:j<m
  ·have b4:(j:Int)<m:=by omega
   obtain ⟨q,hq⟩:∃ q,ps[j]?=some q:=⟨_,List.getElem?_eq_getElem (by rw [HM.out];exact hlt)⟩
   obtain ⟨b5,c7,e1,_,_,h3⟩:=HP.out.below (n.out.mono hB)
   have f1:pa=b5:=by injection e1
   obtain ⟨bl,off,f2,c9,a7⟩:=h3.resolve_left (by intro e;rw [e] at hq;simp at hq)
   obtain ⟨d0,R,v0,v1,v2,v3,v4,v5,⟨c0,c1,c2,c3,c4,c5⟩,hv⟩:=a7 j q hq
   obtain ⟨a5,F⟩:=HS.out q (List.mem_of_getElem? hq)
   have HX:=Zb hq
   obtain ⟨K,⟨I,V,tn,ts,k,g⟩⟩:=q
   simp only at d0 R a5 F hv
   have a3:=hv
   simp only [Zaw] at hv
   obtain ⟨ka,kc,la,lc,b1,_⟩:=hv
   obtain ⟨rfl,rfl,rfl,rfl,rfl,rfl⟩:v0=.int .i64 I/\v1=.bool V/\v2=.int .i64 tn/\v3=.string ts/\v4=.slice ka k.length kc/\v5=.slice la g.length lc:=by
    simpa using b1
   subst f1 f2
   have HV:=Zb a3
   have a9:=Zb F
   have HL:=Zb R
   clear a7 h3 e1 a3 b1 hq F R
   go_upto_region 5 with fail
   generalize a1:World.alloc _ _=W2
   have hr:=Zl wr #[.string K,.int .i64 I,.bool V,.int .i64 tn,.string ts,.slice ka k.length kc,.slice la g.length lc] 79
   rw [a1] at hr
   have y:=Zb hr
   have H:Hid (Below wr.heap.size wr W2):=by rw [<- a1];exact (Below.refl _ _).alloc (Nat.le_refl _) _
   have A:=Zb (Za n.out H.out)
   have a2:=Zb (Zev K a5 W2 (HE.out.below A.out HE.out.room))
   clear a1 hr d0 c0 c1 c2 c3 c4 c5
   have r0:=y.out.cell 0 rfl
   obtain ⟨nb,C⟩:∃ x,Ju K.data.toList=x:=⟨_,rfl⟩
   rw [C] at a2
   have z:=Zb C
   clear C
   go_wp2_with fail
   refine a2.out.mono ?_
   rintro e w3 ⟨rfl,N⟩
   have r:=Zb (Za H.out N)
   have b:=Zb (y.out.below N y.out.lt)
   clear N r0 a2 y A H
   have E:Hid (Zle (K,.mk I V tn ts k g)=false->Zbx ps=false):=fun e=>by
    have:ps.all Zle=false:=by rw [List.all_eq_false];exact ⟨_,List.mem_of_getElem? HX.out,by simp [e]⟩
    unfold Zbx;rw [this];rfl
   have a0:Hid (Zle (K,.mk I V tn ts k g)=true->(ps.take (j+1)).all Zle=true):=fun e=>by
    rw [List.take_add_one,HX.out,List.all_append,b2.out];simp [e]
   unfold Zle at E a0
   have G:=Zb (Zg8 _ B _ w3 (Nat.le_trans hB (Za n.out r.out).size) (HV.out.below (r.out.mono (Nat.le_trans hB n.out.size))) (HE.out.below (Za n.out r.out) HE.out.room).tabs a9.out)
   obtain ⟨sb,M⟩:∃ x,(decide (checkN (.mk I V tn ts k g)=0)&&Zg3 (.mk I V tn ts k g))=x:=⟨_,rfl⟩
   rw [M] at G
   have a6:=Zb M
   clear M
   cases nb with
   | false =>
    go_wp2_with fail
    go_ret
    exact ⟨by rw [E.out (by simp [z.out])];rfl,Za n.out r.out⟩
   | true =>
    have r1:=b.out.cell 1 rfl
    have r2:=b.out.cell 2 rfl
    have r3:=b.out.cell 3 rfl
    have r4:=b.out.cell 4 rfl
    have r5:=b.out.cell 5 rfl
    have r6:=b.out.cell 6 rfl
    go_wp2_with fail
    refine G.out.mono ?_
    rintro e w4 ⟨rfl,U⟩
    have p:=Zb (Za r.out U)
    have a:=Zb (b.out.below U b.out.lt)
    clear U r1 r2 r3 r4 r5 r6 G b
    cases sb with
    | true =>
     obtain ⟨w9,a4,f,u,t,d⟩:=Zqi (s.out.block (p.out.block _ s.out.lt)) K HL.out
     have r0:=a.out.cell 0 rfl
     have D:=Zb (a0.out (by simp [z.out,a6.out]))
     have X:Hid (Zb1 w9 w.heap.size (Zbw (ps.take (j+1)))):=by
      show Zb1 _ _ _
      rw [Zfz HX.out];exact f
     have Y:Hid (Below w.heap.size w w9):=(Za n.out p.out).trans d
     clear f u t d
     go_wp2_with fail
     go_roundw
     case rel=>exact ⟨j+1,by omega,by go_num,Y.out,X.out,D.out⟩
     case measure=>simp [intOf];omega
    | false =>
     have L:=Zb (Zk6 _ B _ w4 (Nat.le_trans hB (Za n.out p.out).size) (HV.out.below (p.out.mono (Nat.le_trans hB n.out.size))) (HE.out.below (Za n.out p.out) HE.out.room) a9.out)
     obtain ⟨ub,T⟩:∃ x,Zcu (.mk I V tn ts k g) Zgp=x:=⟨_,rfl⟩
     rw [T] at L
     have b0:=Zb T
     clear T
     have r1:=a.out.cell 1 rfl
     have r2:=a.out.cell 2 rfl
     have r3:=a.out.cell 3 rfl
     have r4:=a.out.cell 4 rfl
     have r5:=a.out.cell 5 rfl
     have r6:=a.out.cell 6 rfl
     go_wp2_with fail
     refine L.out.mono ?_
     rintro e w5 ⟨rfl,Q⟩
     have O:=Zb (Za p.out Q)
     have b7:=Zb (a.out.below Q a.out.lt)
     clear Q r1 r2 r3 r4 r5 r6 L a
     cases ub with
     | true =>
      obtain ⟨w9,a4,f,u,t,d⟩:=Zqi (s.out.block (O.out.block _ s.out.lt)) K HL.out
      have r0:=b7.out.cell 0 rfl
      have D:=Zb (a0.out (by simp [z.out,b0.out]))
      have X:Hid (Zb1 w9 w.heap.size (Zbw (ps.take (j+1)))):=by
       show Zb1 _ _ _
       rw [Zfz HX.out];exact f
      have Y:Hid (Below w.heap.size w w9):=(Za n.out O.out).trans d
      clear f u t d
      go_wp2_with fail
      go_roundw
      case rel=>exact ⟨j+1,by omega,by go_num,Y.out,X.out,D.out⟩
      case measure=>simp [intOf];omega
     | false =>
      go_wp2_with fail
      go_ret
      exact ⟨by rw [E.out (by simp [z.out,a6.out,b0.out])];rfl,Za n.out O.out⟩
  ·have b4:¬ (j:Int)<m:=by omega
   have b9:j=m:=by omega
   have HZ:Hid (Zbx ps=((Zbw ps).length==m)):=by
    have h:=b2.out
    rw [List.take_of_length_le (by rw [HM.out];omega)] at h
    show _=_
    unfold Zbx
    rw [h,HM.out];rfl
   have o:=s.out
   rw [List.take_of_length_le (by rw [HM.out];omega)] at o
   obtain ⟨es,c,g1,g2⟩:=Zul o
   have l0:∀ ty,(Builtin.len_ #[172] ty #[.map (some w.heap.size)]).run Tryz.prog wr=.ok (goInt es.size) wr:=fun ty=>run_len_map _ 172 ty w.heap.size es c Tryz.underlying172' g1
   rw [g2] at l0
   generalize (Zbw ps).length=l at l0 HZ
   clear g1 g2 o b9
   by_cases hlm:l=m
   ·have P:=Zb hlm
    have b3:((l:Int)==(m:Int))=true:=Zah (by omega)
    clear hlm
    go_wp2_with fail
    go_ret
    exact ⟨by rw [HZ.out,P.out];simp,n.out⟩
   ·have P:=Zb hlm
    have b3:((l:Int)==(m:Int))=false:=Zh (by omega)
    clear hlm
    go_wp2_with fail
    go_ret
    exact ⟨by rw [HZ.out,beq_eq_false_iff_ne.2 P.out];rfl,n.out⟩
end
