import Derived.Test.YteddjlbfbpecjaaGreatDoorJoin13
namespace Go.Proofs.YteddjlbfbpecjaaGreatDoor
set_option linter.all false
section
open Go.RowKit Go.Shelf
attribute [local go_sem] Oper.semAt_some
def Zda (B:Nat) (w:World) (b off:Nat) (q:ByteArray × Zi):Prop :=
 w.cell? ⟨b,off,none⟩=some (.string q.1)/\q.1.size<=maxLen/\∃ v0 v1 v2 v3 v4 v5,(w.cell? ⟨b,off+1,none⟩=some v0/\w.cell? ⟨b,off+2,none⟩=some v1/\w.cell? ⟨b,off+3,none⟩=some v2/\w.cell? ⟨b,off+4,none⟩=some v3/\w.cell? ⟨b,off+5,none⟩=some v4/\w.cell? ⟨b,off+6,none⟩=some v5)/\Zaw B w (.agg #[v0,v1,v2,v3,v4,v5]) q.2
def Jd (B:Nat) (w:World) (v:Value) (ps:List (ByteArray × Zi)):Prop :=
 ∃ f d,v=.slice f ps.length d/\ps.length<=d/\d<=9223372036854775807/\(ps=[]\/∃ b off,f=some ⟨b,off,none⟩/\b<B/\∀ i q,ps[i]?=some q->Zda B w b (off+i*7) q)
theorem Zda.below {B:Nat} {w w':World} (h:Below B w w') {b off:Nat} (c:b<B) {q:ByteArray × Zi} (l:Zda B w b off q):Zda B w' b off q:=by
 obtain ⟨h0,h1,v0,v1,v2,v3,v4,v5,⟨c0,c1,c2,c3,c4,c5⟩,j⟩:=l
 exact ⟨(h.cell (p:=⟨b,off,none⟩) c).trans h0,h1,v0,v1,v2,v3,v4,v5,⟨(h.cell (p:=⟨b,off+1,none⟩) c).trans c0,(h.cell (p:=⟨b,off+2,none⟩) c).trans c1,(h.cell (p:=⟨b,off+3,none⟩) c).trans c2,(h.cell (p:=⟨b,off+4,none⟩) c).trans c3,(h.cell (p:=⟨b,off+5,none⟩) c).trans c4,(h.cell (p:=⟨b,off+6,none⟩) c).trans c5⟩,j.below h⟩
theorem Jd.below {B:Nat} {w w':World} (h:Below B w w') {v:Value} {ps:List (ByteArray × Zi)} (m:Jd B w v ps):Jd B w' v ps:=by
 obtain ⟨f,d,e,h1,h2,h3⟩:=m
 exact ⟨f,d,e,h1,h2,h3.imp id fun ⟨b,off,e,c,k⟩=>⟨b,off,e,c,fun i q g=>(k i q g).below h c⟩⟩
end
section
open Go.RowKit Go.Shelf
attribute [local go_sem] Oper.semAt_some
theorem Zsr {w:World} {b:Nat} {ss:List ByteArray} (h:Zb1 w b ss) (s:ByteArray) (o:s.size<=maxLen) (D:s ∈ ss) :
  ∃ w',(Instr.mapUpdate 172 (.map (some b)) (.string s) (.agg #[])).run Tryz.prog w=.ok () w'/\Zb1 w' b ss/\w'.heap.size=w.heap.size/\(∀ k,k≠b->w'.heap[k]?=w.heap[k]?)/\Below b w w':=by
 obtain ⟨es,d,h1,h2,h3,A⟩:=h
 have p:b<w.heap.size:=(Array.getElem?_eq_some_iff.1 h1).1
 have K:=WideMaps.string_law (P:=Tryz.prog) Tryz.underlying9
 have f:=WideMaps.keyOf_string_mk (P:=Tryz.prog) Tryz.underlying9 o
 rcases K.find w f es.toList (Zn8 h2 A) with ⟨y,u⟩ | ⟨j,z,y,u,r⟩
 ·exfalso
  have:Value.string s ∈ es.toList.map (·.key):=by rw [h2];exact List.mem_map.2 ⟨s,D,rfl⟩
  obtain ⟨e,a,e1⟩:=List.mem_map.1 this
  exact u e a e1
 ·have t:=K.stays w f
  have g:es[j]?=some z:=by rw [<- Array.getElem?_toList];exact u
  have l:(Instr.mapUpdate 172 (.map (some b)) (.string s) (.agg #[])).run Tryz.prog w=.ok () { w with heap:=w.heap.setIfInBounds b (.map (es.modify j fun e=>{ e with key:=.string s,val:=.agg #[] }) d) }:=by
   simp [Instr.mapUpdate,run_underlying Tryz.underlying172',MapKept.run_getObj_map h1,K.check w false f,y,g,r,t,MapKept.run_setObj_map _ h1,Result.andThen]
  have n:∀ (i:Nat) (e:MapEntry),(es.modify j fun e=>{ e with key:=.string s,val:=.agg #[] })[i]?=some e->∃ v:MapEntry,es[i]?=some v/\e.key=v.key/\e.val=.agg #[]:=by
   intro i e a
   rw [Array.getElem?_modify] at a
   by_cases hij:j=i
   ·subst hij
    rw [if_pos rfl,g] at a
    simp only [Option.map_some,Option.some.injEq] at a
    subst a
    exact ⟨z,g,r.symm,rfl⟩
   ·rw [if_neg hij] at a
    exact ⟨e,a,rfl,h3 e (by rw [<- Array.getElem?_toList] at a;exact List.mem_of_getElem? a)⟩
  refine ⟨_,l,⟨es.modify j fun e=>{ e with key:=.string s,val:=.agg #[] },d,?_,?_,?_,A⟩,?_,?_,⟨rfl,rfl,rfl,?_,?_⟩⟩
  ·simp [p]
  ·rw [<- h2]
   refine List.ext_getElem? fun m=>?_
   simp only [List.getElem?_map,Array.getElem?_toList,Array.getElem?_modify]
   by_cases hmi:j=m
   ·subst hmi
    simp [g,r]
   ·simp [hmi]
  ·intro e a
   obtain ⟨i,x⟩:=List.getElem?_of_mem a
   rw [Array.getElem?_toList] at x
   obtain ⟨v,_,_,C⟩:=n i e x
   exact C
  ·simp
  ·intro q B
   simp [Array.getElem?_setIfInBounds_ne (Ne.symm B)]
  ·simp
  ·intro q B
   have:q≠b:=by omega
   simp [Array.getElem?_setIfInBounds_ne (Ne.symm this)]
open Classical in
noncomputable def Zia (ss:List ByteArray) (s:ByteArray):List ByteArray:=if s ∈ ss then ss else ss++[s]
theorem Zqi {w:World} {b:Nat} {ss:List ByteArray} (h:Zb1 w b ss) (s:ByteArray) (o:s.size<=maxLen) :
  ∃ w',(Instr.mapUpdate 172 (.map (some b)) (.string s) (.agg #[])).run Tryz.prog w=.ok () w'/\Zb1 w' b (Zia ss s)/\w'.heap.size=w.heap.size/\(∀ k,k≠b->w'.heap[k]?=w.heap[k]?)/\Below b w w':=by
 unfold Zia
 split
 ·exact Zsr h s o (by assumption)
 ·exact Jar h s o (by assumption)
theorem Zul {w:World} {b:Nat} {ss:List ByteArray} (h:Zb1 w b ss):∃ es c,w.heap[b]?=some (.map es c)/\es.size=ss.length:=by
 obtain ⟨es,c,h1,h2,_⟩:=h
 refine ⟨es,c,h1,?_⟩
 have:=congrArg List.length h2
 simpa using this
noncomputable def Zbw (ps:List (ByteArray × Zi)):List ByteArray:=(ps.map Prod.fst).foldl Zia []
theorem Zfz {ps:List (ByteArray × Zi)} {j:Nat} {q:ByteArray × Zi} (h:ps[j]?=some q):Zbw (ps.take (j+1))=Zia (Zbw (ps.take j)) q.1:=by
 unfold Zbw
 rw [List.take_add_one,h]
 simp
def Zle (q:ByteArray × Zi):Bool:=Ju q.1.data.toList&&((decide (checkN q.2=0)&&Zg3 q.2)||Zcu q.2 Zgp)
noncomputable def Zbx (ps:List (ByteArray × Zi)):Bool:=ps.all Zle&&((Zbw ps).length==ps.length)
end
section
open Go.RowKit Go.Shelf
attribute [local go_sem] Oper.semAt_some
set_option maxRecDepth 100000 in
set_option maxHeartbeats 8000000 in
theorem Zha (v:Value) (ps:List (ByteArray × Zi)) (B:Nat) (w:World) (hB:B<=w.heap.size) (d1:3<=B) (hp:Jd B w v ps) (hs:∀ q ∈ ps,q.1.size<=140737488355328/\Zas q.2) (hE:Env w) :
  Calls Tryz.prog 86 #[v] w fun e w'=>e=.returned (.bool (Zbx ps))/\Below w.heap.size w w':=by
 have c6:∀ W:World,(Instr.makeMap 172 none).run Tryz.prog W=.ok (.map (some W.heap.size)) (W.alloc (.map #[] 0)):=fun W=>rfl
 have HP:=Zb hp
 have HS:=Zb hs
 have HE:=Zb hE
 obtain ⟨pa,pc,rfl,h1,h2,_⟩:=hp
 obtain ⟨m,hm⟩:∃ m,ps.length=m:=⟨_,rfl⟩
 rw [hm] at HP h1 |-
 have HM:=Zb hm
 clear hm hs hE
 go_enter Tryz.func86,Tryz.ntmps86
 go_upto_region 2 with fail
 generalize a3:World.alloc _ _=W1
 have c7:Hid (Below w.heap.size w W1):=by rw [<- a3];exact (Below.refl _ _).alloc (Nat.le_refl _) _
 have b9:Hid (Zb1 W1 w.heap.size []):=by rw [<- a3];exact Zxb w
 clear a3 c6
 go_wp2_with fail
 go_loopw [9] (fun i wr=>∃ j:Nat,j<=m/\i=.int .i64 j/\Below w.heap.size w wr/\Zb1 wr w.heap.size (Zbw (ps.take j))/\(ps.take j).all Zle=true) (fun i _=>m - (intOf i).toNat)
 case atStart=>exact ⟨0,Nat.zero_le _,rfl,c7.out,b9.out,rfl⟩
 case round =>
  obtain ⟨j,hj,rfl,hb,o,a9⟩:=hrel
  have n:=Zb hb
  have s:=Zb o
  have b1:=Zb a9
  clear hb o a9
  by_cases hlt:j<m
  ·have b5:(j:Int)<m:=by omega
   obtain ⟨q,hq⟩:∃ q,ps[j]?=some q:=⟨_,List.getElem?_eq_getElem (by rw [HM.out];exact hlt)⟩
   obtain ⟨b8,c8,e1,_,_,h3⟩:=HP.out.below (n.out.mono hB)
   have f1:pa=b8:=by injection e1
   obtain ⟨bl,off,f2,c9,a8⟩:=h3.resolve_left (by intro e;rw [e] at hq;simp at hq)
   obtain ⟨d0,U,v0,v1,v2,v3,v4,v5,⟨c0,c1,c2,c3,c4,c5⟩,hv⟩:=a8 j q hq
   obtain ⟨b3,a1⟩:=HS.out q (List.mem_of_getElem? hq)
   have HX:=Zb hq
   obtain ⟨E,⟨P,S,I,ts,k,g⟩⟩:=q
   simp only at d0 U b3 a1 hv
   have a4:=hv
   simp only [Zaw] at hv
   obtain ⟨ka,kc,la,lc,b2,_⟩:=hv
   obtain ⟨rfl,rfl,rfl,rfl,rfl,rfl⟩:v0=.int .i64 P/\v1=.bool S/\v2=.int .i64 I/\v3=.string ts/\v4=.slice ka k.length kc/\v5=.slice la g.length lc:=by
    simpa using b2
   subst f1 f2
   have HV:=Zb a4
   have b0:=Zb a1
   have HL:=Zb U
   clear a8 h3 e1 a4 b2 hq a1 U
   go_upto_region 5 with fail
   generalize G:World.alloc _ _=W2
   have hr:=Zl wr #[.string E,.int .i64 P,.bool S,.int .i64 I,.string ts,.slice ka k.length kc,.slice la g.length lc] 79
   rw [G] at hr
   have z:=Zb hr
   have O:Hid (Below wr.heap.size wr W2):=by rw [<- G];exact (Below.refl _ _).alloc (Nat.le_refl _) _
   have A:=Zb (Za n.out O.out)
   have H:=Zb (Zev E b3 W2 (HE.out.below A.out HE.out.room))
   clear G hr d0 c0 c1 c2 c3 c4 c5
   have r0:=z.out.cell 0 rfl
   obtain ⟨nb,a2⟩:∃ x,Ju E.data.toList=x:=⟨_,rfl⟩
   rw [a2] at H
   have y:=Zb a2
   clear a2
   go_wp2_with fail
   refine H.out.mono ?_
   rintro e w3 ⟨rfl,N⟩
   have u:=Zb (Za O.out N)
   have b:=Zb (z.out.below N z.out.lt)
   clear N r0 H z A O
   have R:Hid (Zle (E,.mk P S I ts k g)=false->Zbx ps=false):=fun e=>by
    have:ps.all Zle=false:=by rw [List.all_eq_false];exact ⟨_,List.mem_of_getElem? HX.out,by simp [e]⟩
    unfold Zbx;rw [this];rfl
   have L:Hid (Zle (E,.mk P S I ts k g)=true->(ps.take (j+1)).all Zle=true):=fun e=>by
    rw [List.take_add_one,HX.out,List.all_append,b1.out];simp [e]
   unfold Zle at R L
   have X:=Zb (Zg8 _ B _ w3 (Nat.le_trans hB (Za n.out u.out).size) (HV.out.below (u.out.mono (Nat.le_trans hB n.out.size))) (HE.out.below (Za n.out u.out) HE.out.room).tabs b0.out)
   obtain ⟨sb,C⟩:∃ x,(decide (checkN (.mk P S I ts k g)=0)&&Zg3 (.mk P S I ts k g))=x:=⟨_,rfl⟩
   rw [C] at X
   have a5:=Zb C
   clear C
   cases nb with
   | false =>
    go_wp2_with fail
    go_ret
    exact ⟨by rw [R.out (by simp [y.out])];rfl,Za n.out u.out⟩
   | true =>
    have r1:=b.out.cell 1 rfl
    have r2:=b.out.cell 2 rfl
    have r3:=b.out.cell 3 rfl
    have r4:=b.out.cell 4 rfl
    have r5:=b.out.cell 5 rfl
    have r6:=b.out.cell 6 rfl
    go_wp2_with fail
    refine X.out.mono ?_
    rintro e w4 ⟨rfl,T⟩
    have p:=Zb (Za u.out T)
    have a:=Zb (b.out.below T b.out.lt)
    clear T r1 r2 r3 r4 r5 r6 X b
    cases sb with
    | true =>
     obtain ⟨w9,a7,d,r,t,f⟩:=Zqi (s.out.block (p.out.block _ s.out.lt)) E HL.out
     have r0:=a.out.cell 0 rfl
     have F:=Zb (L.out (by simp [y.out,a5.out]))
     have D:Hid (Zb1 w9 w.heap.size (Zbw (ps.take (j+1)))):=by
      show Zb1 _ _ _
      rw [Zfz HX.out];exact d
     have Y:Hid (Below w.heap.size w w9):=(Za n.out p.out).trans f
     clear d r t f
     go_wp2_with fail
     go_roundw
     case rel=>exact ⟨j+1,by omega,by go_num,Y.out,D.out,F.out⟩
     case measure=>simp [intOf];omega
    | false =>
     have M:=Zb (Zk6 _ B _ w4 (Nat.le_trans hB (Za n.out p.out).size) (HV.out.below (p.out.mono (Nat.le_trans hB n.out.size))) (HE.out.below (Za n.out p.out) HE.out.room) b0.out)
     obtain ⟨ub,Q⟩:∃ x,Zcu (.mk P S I ts k g) Zgp=x:=⟨_,rfl⟩
     rw [Q] at M
     have a6:=Zb Q
     clear Q
     have r1:=a.out.cell 1 rfl
     have r2:=a.out.cell 2 rfl
     have r3:=a.out.cell 3 rfl
     have r4:=a.out.cell 4 rfl
     have r5:=a.out.cell 5 rfl
     have r6:=a.out.cell 6 rfl
     go_wp2_with fail
     refine M.out.mono ?_
     rintro e w5 ⟨rfl,K⟩
     have a0:=Zb (Za p.out K)
     have b7:=Zb (a.out.below K a.out.lt)
     clear K r1 r2 r3 r4 r5 r6 M a
     cases ub with
     | true =>
      obtain ⟨w9,a7,d,r,t,f⟩:=Zqi (s.out.block (a0.out.block _ s.out.lt)) E HL.out
      have r0:=b7.out.cell 0 rfl
      have F:=Zb (L.out (by simp [y.out,a6.out]))
      have D:Hid (Zb1 w9 w.heap.size (Zbw (ps.take (j+1)))):=by
       show Zb1 _ _ _
       rw [Zfz HX.out];exact d
      have Y:Hid (Below w.heap.size w w9):=(Za n.out a0.out).trans f
      clear d r t f
      go_wp2_with fail
      go_roundw
      case rel=>exact ⟨j+1,by omega,by go_num,Y.out,D.out,F.out⟩
      case measure=>simp [intOf];omega
     | false =>
      go_wp2_with fail
      go_ret
      exact ⟨by rw [R.out (by simp [y.out,a5.out,a6.out])];rfl,Za n.out a0.out⟩
  ·have b5:¬ (j:Int)<m:=by omega
   have b6:j=m:=by omega
   have HZ:Hid (Zbx ps=((Zbw ps).length==m)):=by
    have h:=b1.out
    rw [List.take_of_length_le (by rw [HM.out];omega)] at h
    show _=_
    unfold Zbx
    rw [h,HM.out];rfl
   have o:=s.out
   rw [List.take_of_length_le (by rw [HM.out];omega)] at o
   obtain ⟨es,c,g1,g2⟩:=Zul o
   have l0:∀ ty,(Builtin.len_ #[172] ty #[.map (some w.heap.size)]).run Tryz.prog wr=.ok (goInt es.size) wr:=fun ty=>run_len_map _ 172 ty w.heap.size es c Tryz.underlying172' g1
   rw [g2] at l0
   generalize (Zbw ps).length=l at l0 HZ
   clear g1 g2 o b6
   by_cases hlm:l=m
   ·have V:=Zb hlm
    have b4:((l:Int)==(m:Int))=true:=Zah (by omega)
    clear hlm
    go_wp2_with fail
    go_ret
    exact ⟨by rw [HZ.out,V.out];simp,n.out⟩
   ·have V:=Zb hlm
    have b4:((l:Int)==(m:Int))=false:=Zh (by omega)
    clear hlm
    go_wp2_with fail
    go_ret
    exact ⟨by rw [HZ.out,beq_eq_false_iff_ne.2 V.out];rfl,n.out⟩
end
