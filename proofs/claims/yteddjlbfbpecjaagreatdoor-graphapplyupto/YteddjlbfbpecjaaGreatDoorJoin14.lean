/- How great a step is: it is asked, and answered. -/
import Derived.Test.YteddjlbfbpecjaaGreatDoorJoin7
import Derived.Deep.Cut
import Derived.Test.YteddjlbfbpecjaaGreatDoorJoin3
import Derived.Test.YteddjlbfbpecjaaGreatDoorJoin13
namespace Go.Proofs.YteddjlbfbpecjaaGreatDoor
section
open Go.RowKit Go.Shelf
set_option linter.all false
attribute [local go_sem] Oper.semAt_some
def Zdw (B:Nat) (w:World) (bl off:Nat) (q:ByteArray × Zk):Prop :=
 w.cell? ⟨bl,off,none⟩=some (.string q.1)∧q.1.size≤maxLen∧∃ v0 v1 v2 v3 v4 v5,(w.cell? ⟨bl,off+1,none⟩=some v0∧w.cell? ⟨bl,off+2,none⟩=some v1∧w.cell? ⟨bl,off+3,none⟩=some v2∧w.cell? ⟨bl,off+4,none⟩=some v3∧w.cell? ⟨bl,off+5,none⟩=some v4∧w.cell? ⟨bl,off+6,none⟩=some v5)∧Zaw B w (.agg #[v0,v1,v2,v3,v4,v5]) q.2
def Jh (B:Nat) (w:World) (v:Value) (ps:List (ByteArray × Zk)):Prop :=
 ∃ pa pc,v=.slice pa ps.length pc∧ps.length≤pc∧pc≤9223372036854775807∧(ps=[]∨∃ bl off,pa=some ⟨bl,off,none⟩∧bl<B∧∀ i q,ps[i]?=some q→Zdw B w bl (off+i*7) q)
theorem Zdw.below {B:Nat} {w w':World} (h:Below B w w') {bl off:Nat} (hl:bl<B) {q:ByteArray × Zk} (hq:Zdw B w bl off q):Zdw B w' bl off q:=by
 obtain ⟨h0,h1,v0,v1,v2,v3,v4,v5,⟨c0,c1,c2,c3,c4,c5⟩,hv⟩:=hq
 exact ⟨(h.cell (p:=⟨bl,off,none⟩) hl).trans h0,h1,v0,v1,v2,v3,v4,v5,⟨(h.cell (p:=⟨bl,off+1,none⟩) hl).trans c0,(h.cell (p:=⟨bl,off+2,none⟩) hl).trans c1,(h.cell (p:=⟨bl,off+3,none⟩) hl).trans c2,(h.cell (p:=⟨bl,off+4,none⟩) hl).trans c3,(h.cell (p:=⟨bl,off+5,none⟩) hl).trans c4,(h.cell (p:=⟨bl,off+6,none⟩) hl).trans c5⟩,hv.below h⟩
theorem Jh.below {B:Nat} {w w':World} (h:Below B w w') {v:Value} {ps:List (ByteArray × Zk)} (hp:Jh B w v ps):Jh B w' v ps:=by
 obtain ⟨pa,pc,e,h1,h2,h3⟩:=hp
 exact ⟨pa,pc,e,h1,h2,h3.imp id fun ⟨bl,off,e,hl,hc⟩=>⟨bl,off,e,hl,fun i q hi=>(hc i q hi).below h hl⟩⟩
end
section
open Go.RowKit Go.Shelf
set_option linter.all false
attribute [local go_sem] Oper.semAt_some
theorem Zp9 {w:World} {b:Nat} {ss:List ByteArray} (h:Zbs w b ss) (s:ByteArray) (hs:s.size≤maxLen) (hm:s ∈ ss) :
  ∃ w',(Instr.mapUpdate 172 (.map (some b)) (.string s) (.agg #[])).run Tryz.prog w=.ok () w'∧Zbs w' b ss∧w'.heap.size=w.heap.size∧(∀ k,k≠b→w'.heap[k]?=w.heap[k]?)∧Below b w w':=by
 obtain ⟨es,clock,h1,h2,h3,h4⟩:=h
 have hlt:b<w.heap.size:=(Array.getElem?_eq_some_iff.1 h1).1
 have K:=WideMaps.string_law (P:=Tryz.prog) Tryz.underlying9
 have hkey:=WideMaps.keyOf_string_mk (P:=Tryz.prog) Tryz.underlying9 hs
 rcases K.find w hkey es.toList (Zmb h2 h4) with ⟨f1,f2⟩ | ⟨j,e0,f1,f2,f3⟩
 ·exfalso
  have:Value.string s ∈ es.toList.map (·.key):=by rw [h2];exact List.mem_map.2 ⟨s,hm,rfl⟩
  obtain ⟨e,he,e1⟩:=List.mem_map.1 this
  exact f2 e he e1
 ·have hst:=K.stays w hkey
  have hai:es[j]?=some e0:=by rw [← Array.getElem?_toList];exact f2
  have hrun:(Instr.mapUpdate 172 (.map (some b)) (.string s) (.agg #[])).run Tryz.prog w=.ok () { w with heap:=w.heap.setIfInBounds b (.map (es.modify j fun e=>{ e with key:=.string s,val:=.agg #[] }) clock) }:=by
   simp [Instr.mapUpdate,run_underlying Tryz.underlying172',MapKept.run_getObj_map h1,K.check w false hkey,f1,hai,f3,hst,MapKept.run_setObj_map _ h1,Result.andThen]
  have hmod:∀ (i:Nat) (e:MapEntry),(es.modify j fun e=>{ e with key:=.string s,val:=.agg #[] })[i]?=some e→∃ e':MapEntry,es[i]?=some e'∧e.key=e'.key∧e.val=.agg #[]:=by
   intro i e he
   rw [Array.getElem?_modify] at he
   by_cases hij:j=i
   ·subst hij
    rw [if_pos rfl,hai] at he
    simp only [Option.map_some,Option.some.injEq] at he
    subst he
    exact ⟨e0,hai,f3.symm,rfl⟩
   ·rw [if_neg hij] at he
    exact ⟨e,he,rfl,h3 e (by rw [← Array.getElem?_toList] at he;exact List.mem_of_getElem? he)⟩
  refine ⟨_,hrun,⟨es.modify j fun e=>{ e with key:=.string s,val:=.agg #[] },clock,?_,?_,?_,h4⟩,?_,?_,⟨rfl,rfl,rfl,?_,?_⟩⟩
  ·simp [hlt]
  ·rw [← h2]
   refine List.ext_getElem? fun m=>?_
   simp only [List.getElem?_map,Array.getElem?_toList,Array.getElem?_modify]
   by_cases hmi:j=m
   ·subst hmi
    simp [hai,f3]
   ·simp [hmi]
  ·intro e he
   obtain ⟨i,hi⟩:=List.getElem?_of_mem he
   rw [Array.getElem?_toList] at hi
   obtain ⟨e',_,_,hv⟩:=hmod i e hi
   exact hv
  ·simp
  ·intro q hq
   simp [Array.getElem?_setIfInBounds_ne (Ne.symm hq)]
  ·simp
  ·intro q hq
   have:q≠b:=by omega
   simp [Array.getElem?_setIfInBounds_ne (Ne.symm this)]
open Classical in
noncomputable def Zhk (ss:List ByteArray) (s:ByteArray):List ByteArray:=if s ∈ ss then ss else ss++[s]
theorem Zok {w:World} {b:Nat} {ss:List ByteArray} (h:Zbs w b ss) (s:ByteArray) (hs:s.size≤maxLen) :
  ∃ w',(Instr.mapUpdate 172 (.map (some b)) (.string s) (.agg #[])).run Tryz.prog w=.ok () w'∧Zbs w' b (Zhk ss s)∧w'.heap.size=w.heap.size∧(∀ k,k≠b→w'.heap[k]?=w.heap[k]?)∧Below b w w':=by
 unfold Zhk
 split
 ·exact Zp9 h s hs (by assumption)
 ·exact Zxt h s hs (by assumption)
theorem Zrt {w:World} {b:Nat} {ss:List ByteArray} (h:Zbs w b ss):∃ es c,w.heap[b]?=some (.map es c)∧es.size=ss.length:=by
 obtain ⟨es,c,h1,h2,_⟩:=h
 refine ⟨es,c,h1,?_⟩
 have:=congrArg List.length h2
 simpa using this
noncomputable def Zbn (ps:List (ByteArray × Zk)):List ByteArray:=(ps.map Prod.fst).foldl Zhk []
theorem Zfo {ps:List (ByteArray × Zk)} {j:Nat} {q:ByteArray × Zk} (h:ps[j]?=some q):Zbn (ps.take (j+1))=Zhk (Zbn (ps.take j)) q.1:=by
 unfold Zbn
 rw [List.take_add_one,h]
 simp
def Zjx (q:ByteArray × Zk):Bool:=Jn q.1.data.toList&&((decide (checkN q.2=0)&&Zgn q.2)||Ze9 q.2 Zf5)
noncomputable def Zbo (ps:List (ByteArray × Zk)):Bool:=ps.all Zjx&&((Zbn ps).length==ps.length)
end
section
open Go.RowKit Go.Shelf
set_option linter.all false
attribute [local go_sem] Oper.semAt_some
set_option maxRecDepth 100000 in
set_option maxHeartbeats 8000000 in
theorem Zgs (v:Value) (ps:List (ByteArray × Zk)) (B:Nat) (w:World) (hB:B≤w.heap.size) (hB3:3≤B) (hp:Jh B w v ps) (hs:∀ q ∈ ps,q.1.size≤140737488355328∧Zct q.2) (hE:Env w) :
  Calls Tryz.prog 86 #[v] w fun e w'=>e=.returned (.bool (Zbo ps))∧Below w.heap.size w w':=by
 have hmk:∀ W:World,(Instr.makeMap 172 none).run Tryz.prog W=.ok (.map (some W.heap.size)) (W.alloc (.map #[] 0)):=fun W=>rfl
 have HP:=Zb hp
 have HS:=Zb hs
 have HE:=Zb hE
 obtain ⟨pa,pc,rfl,h1,h2,_⟩:=hp
 obtain ⟨m,hm⟩:∃ m,ps.length=m:=⟨_,rfl⟩
 rw [hm] at HP h1 ⊢
 have HM:=Zb hm
 clear hm hs hE
 go_enter Tryz.func86,Tryz.ntmps86
 go_upto_region 2 with fail
 generalize hW1:World.alloc _ _=W1
 have HB1:Hid (Below w.heap.size w W1):=by rw [← hW1];exact (Below.refl _ _).alloc (Nat.le_refl _) _
 have HS1:Hid (Zbs W1 w.heap.size []):=by rw [← hW1];exact Zug w
 clear hW1 hmk
 go_wp2_with fail
 go_loopw [9] (fun i wr=>∃ j:Nat,j≤m∧i=.int .i64 j∧Below w.heap.size w wr∧Zbs wr w.heap.size (Zbn (ps.take j))∧(ps.take j).all Zjx=true) (fun i _=>m - (intOf i).toNat)
 case atStart=>exact ⟨0,Nat.zero_le _,rfl,HB1.out,HS1.out,rfl⟩
 case round =>
  obtain ⟨j,hj,rfl,hb,hse,hal⟩:=hrel
  have HB:=Zb hb
  have HSE:=Zb hse
  have HAL:=Zb hal
  clear hb hse hal
  by_cases hlt:j<m
  ·have hlt':(j:Int)<m:=by omega
   obtain ⟨q,hq⟩:∃ q,ps[j]?=some q:=⟨_,List.getElem?_eq_getElem (by rw [HM.out];exact hlt)⟩
   obtain ⟨pa',pc',e1,_,_,h3⟩:=HP.out.below (HB.out.mono hB)
   have f1:pa=pa':=by injection e1
   obtain ⟨bl,off,f2,hbl,hat⟩:=h3.resolve_left (by intro e;rw [e] at hq;simp at hq)
   obtain ⟨d0,hs0,v0,v1,v2,v3,v4,v5,⟨c0,c1,c2,c3,c4,c5⟩,hv⟩:=hat j q hq
   obtain ⟨hq1,hq2⟩:=HS.out q (List.mem_of_getElem? hq)
   have HX:=Zb hq
   obtain ⟨qk,⟨tk,tb,tn,ts,tks,tts⟩⟩:=q
   simp only at d0 hs0 hq1 hq2 hv
   have hv0:=hv
   simp only [Zaw] at hv
   obtain ⟨ka,kc,la,lc,hag,_⟩:=hv
   obtain ⟨rfl,rfl,rfl,rfl,rfl,rfl⟩:v0=.int .i64 tk∧v1=.bool tb∧v2=.int .i64 tn∧v3=.string ts∧v4=.slice ka tks.length kc∧v5=.slice la tts.length lc:=by
    simpa using hag
   subst f1 f2
   have HV:=Zb hv0
   have HMo:=Zb hq2
   have HL:=Zb hs0
   clear hat h3 e1 hv0 hag hq hq2 hs0
   go_upto_region 5 with fail
   generalize hW2:World.alloc _ _=W2
   have hr:=Zl wr #[.string qk,.int .i64 tk,.bool tb,.int .i64 tn,.string ts,.slice ka tks.length kc,.slice la tts.length lc] 79
   rw [hW2] at hr
   have HR2:=Zb hr
   have HB2:Hid (Below wr.heap.size wr W2):=by rw [← hW2];exact (Below.refl _ _).alloc (Nat.le_refl _) _
   have HBW2:=Zb (Za HB.out HB2.out)
   have HNm:=Zb (Zel qk hq1 W2 (HE.out.below HBW2.out HE.out.room))
   clear hW2 hr d0 c0 c1 c2 c3 c4 c5
   have r0:=HR2.out.cell 0 rfl
   obtain ⟨nb,hnb⟩:∃ x,Jn qk.data.toList=x:=⟨_,rfl⟩
   rw [hnb] at HNm
   have HNB:=Zb hnb
   clear hnb
   go_wp2_with fail
   refine HNm.out.mono ?_
   rintro e w3 ⟨rfl,hb3⟩
   have HB3:=Zb (Za HB2.out hb3)
   have HR3:=Zb (HR2.out.below hb3 HR2.out.lt)
   clear hb3 r0 HNm HR2 HBW2 HB2
   have HFa:Hid (Zjx (qk,.mk tk tb tn ts tks tts)=false→Zbo ps=false):=fun e=>by
    have:ps.all Zjx=false:=by rw [List.all_eq_false];exact ⟨_,List.mem_of_getElem? HX.out,by simp [e]⟩
    unfold Zbo;rw [this];rfl
   have HTr:Hid (Zjx (qk,.mk tk tb tn ts tks tts)=true→(ps.take (j+1)).all Zjx=true):=fun e=>by
    rw [List.take_add_one,HX.out,List.all_append,HAL.out];simp [e]
   unfold Zjx at HFa HTr
   have HSt:=Zb (Zgr _ B _ w3 (Nat.le_trans hB (Za HB.out HB3.out).size) (HV.out.below (HB3.out.mono (Nat.le_trans hB HB.out.size))) (HE.out.below (Za HB.out HB3.out) HE.out.room).tabs HMo.out)
   obtain ⟨sb,hsb⟩:∃ x,(decide (checkN (.mk tk tb tn ts tks tts)=0)&&Zgn (.mk tk tb tn ts tks tts))=x:=⟨_,rfl⟩
   rw [hsb] at HSt
   have HSB:=Zb hsb
   clear hsb
   cases nb with
   | false =>
    go_wp2_with fail
    go_ret
    exact ⟨by rw [HFa.out (by simp [HNB.out])];rfl,Za HB.out HB3.out⟩
   | true =>
    have r1:=HR3.out.cell 1 rfl
    have r2:=HR3.out.cell 2 rfl
    have r3:=HR3.out.cell 3 rfl
    have r4:=HR3.out.cell 4 rfl
    have r5:=HR3.out.cell 5 rfl
    have r6:=HR3.out.cell 6 rfl
    go_wp2_with fail
    refine HSt.out.mono ?_
    rintro e w4 ⟨rfl,hb4⟩
    have HB4:=Zb (Za HB3.out hb4)
    have HR4:=Zb (HR3.out.below hb4 HR3.out.lt)
    clear hb4 r1 r2 r3 r4 r5 r6 HSt HR3
    cases sb with
    | true =>
     obtain ⟨w9,hrun,hse9,hsz9,hot9,hbe9⟩:=Zok (HSE.out.block (HB4.out.block _ HSE.out.lt)) qk HL.out
     have r0:=HR4.out.cell 0 rfl
     have HT9:=Zb (HTr.out (by simp [HNB.out,HSB.out]))
     have HS9:Hid (Zbs w9 w.heap.size (Zbn (ps.take (j+1)))):=by
      show Zbs _ _ _
      rw [Zfo HX.out];exact hse9
     have HB9:Hid (Below w.heap.size w w9):=(Za HB.out HB4.out).trans hbe9
     clear hse9 hsz9 hot9 hbe9
     go_wp2_with fail
     go_roundw
     case rel=>exact ⟨j+1,by omega,by go_num,HB9.out,HS9.out,HT9.out⟩
     case measure=>simp [intOf];omega
    | false =>
     have HNu:=Zb (Zjq _ B _ w4 (Nat.le_trans hB (Za HB.out HB4.out).size) (HV.out.below (HB4.out.mono (Nat.le_trans hB HB.out.size))) (HE.out.below (Za HB.out HB4.out) HE.out.room) HMo.out)
     obtain ⟨ub,hub⟩:∃ x,Ze9 (.mk tk tb tn ts tks tts) Zf5=x:=⟨_,rfl⟩
     rw [hub] at HNu
     have HUB:=Zb hub
     clear hub
     have r1:=HR4.out.cell 1 rfl
     have r2:=HR4.out.cell 2 rfl
     have r3:=HR4.out.cell 3 rfl
     have r4:=HR4.out.cell 4 rfl
     have r5:=HR4.out.cell 5 rfl
     have r6:=HR4.out.cell 6 rfl
     go_wp2_with fail
     refine HNu.out.mono ?_
     rintro e w5 ⟨rfl,hb5⟩
     have HB5:=Zb (Za HB4.out hb5)
     have HR5:=Zb (HR4.out.below hb5 HR4.out.lt)
     clear hb5 r1 r2 r3 r4 r5 r6 HNu HR4
     cases ub with
     | true =>
      obtain ⟨w9,hrun,hse9,hsz9,hot9,hbe9⟩:=Zok (HSE.out.block (HB5.out.block _ HSE.out.lt)) qk HL.out
      have r0:=HR5.out.cell 0 rfl
      have HT9:=Zb (HTr.out (by simp [HNB.out,HUB.out]))
      have HS9:Hid (Zbs w9 w.heap.size (Zbn (ps.take (j+1)))):=by
       show Zbs _ _ _
       rw [Zfo HX.out];exact hse9
      have HB9:Hid (Below w.heap.size w w9):=(Za HB.out HB5.out).trans hbe9
      clear hse9 hsz9 hot9 hbe9
      go_wp2_with fail
      go_roundw
      case rel=>exact ⟨j+1,by omega,by go_num,HB9.out,HS9.out,HT9.out⟩
      case measure=>simp [intOf];omega
     | false =>
      go_wp2_with fail
      go_ret
      exact ⟨by rw [HFa.out (by simp [HNB.out,HSB.out,HUB.out])];rfl,Za HB.out HB5.out⟩
  ·have hlt':¬ (j:Int)<m:=by omega
   have hjm:j=m:=by omega
   have HZ:Hid (Zbo ps=((Zbn ps).length==m)):=by
    have h:=HAL.out
    rw [List.take_of_length_le (by rw [HM.out];omega)] at h
    show _=_
    unfold Zbo
    rw [h,HM.out];rfl
   have hse:=HSE.out
   rw [List.take_of_length_le (by rw [HM.out];omega)] at hse
   obtain ⟨es,c,g1,g2⟩:=Zrt hse
   have l0:∀ ty,(Builtin.len_ #[172] ty #[.map (some w.heap.size)]).run Tryz.prog wr=.ok (goInt es.size) wr:=fun ty=>run_len_map _ 172 ty w.heap.size es c Tryz.underlying172' g1
   rw [g2] at l0
   generalize (Zbn ps).length=l at l0 HZ
   clear g1 g2 hse hjm
   by_cases hlm:l=m
   ·have HLM:=Zb hlm
    have hlm':((l:Int)==(m:Int))=true:=Jy (by omega)
    clear hlm
    go_wp2_with fail
    go_ret
    exact ⟨by rw [HZ.out,HLM.out];simp,HB.out⟩
   ·have HLM:=Zb hlm
    have hlm':((l:Int)==(m:Int))=false:=Zh (by omega)
    clear hlm
    go_wp2_with fail
    go_ret
    exact ⟨by rw [HZ.out,beq_eq_false_iff_ne.2 HLM.out];rfl,HB.out⟩
end
