/- value.Storable. -/
import Derived.Test.YteddjlbfbpecjaaGreatDoorJoin12
import Derived.Test.YteddjlbfbpecjaaGreatDoorJoin7
import Derived.Below
import Derived.Test.YteddjlbfbpecjaaGreatDoorShape
import Derived.StringKeys
import Derived.MapKept
import Derived.Test.YteddjlbfbpecjaaGreatDoorJoin4
namespace Go.Proofs.YteddjlbfbpecjaaGreatDoor
section
open Go.RowKit Go.Shelf
set_option linter.all false
set_option maxRecDepth 100000 in
set_option maxHeartbeats 4000000 in
theorem Zgr (T:Zk) (B:Nat) (v:Value) (w:World) (hB:B≤w.heap.size) (hv:Zaw B w v T) (hT:Zla w) (hm:Zct T):Calls Tryz.prog 129 #[v] w fun e w'=>e=.returned (.bool (decide (checkN T=0)&&Zgn T))∧Below w.heap.size w w':=by
 obtain ⟨k,x,n,s,ks,ts⟩:=T
 have hv0:=hv
 simp only [Zaw] at hv
 obtain ⟨ka,kc,la,lc,rfl,⟨hs1,hs2,hs3,hs4,hs5⟩,hk,ht⟩:=hv
 unfold maxLen at hs5
 obtain ⟨W1,hW1⟩:∃ W1,w.alloc (.cells #[.int .i64 k,.bool x,.int .i64 n,.string s,.slice ka ks.length kc,.slice la ts.length lc] 60)=W1:=⟨_,rfl⟩
 have hb1:Below w.heap.size w W1:=hW1▸(Below.refl _ _).alloc (Nat.le_refl _) _
 have hq1:W1.heap[w.heap.size]?=some (.cells #[.int .i64 k,.bool x,.int .i64 n,.string s,.slice ka ks.length kc,.slice la ts.length lc] 60 (0,0)):=hW1▸World.alloc_heap_new _ _
 have hlt1:w.heap.size<W1.heap.size:=(Array.getElem?_eq_some_iff.1 hq1).1
 have HX:Hid (∀ W,Below W1.heap.size W1 W→Below w.heap.size w W∧W.cell? ⟨w.heap.size,0,none⟩=some (.int .i64 k)∧W.cell? ⟨w.heap.size,5,none⟩=some (.slice la ts.length lc)):=fun W hb=>by
  have e:=(hb.block _ hlt1).trans hq1
  exact ⟨hb1.trans (hb.mono (by omega)),by unfold World.cell?;simp only [e];rfl,by unfold World.cell?;simp only [e];rfl⟩
 have HT:Hid (ts=[]∨∃ bl off,la=some ⟨bl,off,none⟩∧bl<B∧KidsLie B w bl off ts):=ht
 have HCK:=Zb (Zlh _ _ W1 ((hv0.below (hb1.mono hB)).mono (Nat.le_trans hB hb1.size)) (hT.below hb1) hm.1 hm.2)
 have HW1:=Zb hW1
 obtain ⟨cn,hcn⟩:∃ c,checkN (.mk k x n s ks ts)=c:=⟨_,rfl⟩
 rw [hcn] at HCK ⊢
 have HS:Hid (Zgn (.mk k x n s ks ts)=(if k=4 then ts.all fun t=>Zah t.kind&&(t.kind==Zbt ts) else Zah k)):=rfl
 clear hW1 hq1 ht hk hv0 hT hm hcn
 go_enter Tryz.func129,Tryz.ntmps129
 go_wp2_with fail
 rw [HW1.out]
 refine HCK.out.mono ?_
 rintro e w2 ⟨rfl,hb2⟩
 have HB2:=Zb hb2
 obtain ⟨hbw2,q0,q5⟩:=HX.out w2 hb2
 have HBW2:=Zb hbw2
 clear hb2 hbw2 HW1 HCK
 by_cases hc:cn=0
 ·have hc':(cn != 0)=false:=by simp [hc]
  have HD:Hid (decide (cn=0)=true):=decide_eq_true hc
  clear hc
  by_cases k4:k=4
  ·have k4':(k != 4)=false:=by simp [k4]
   have HS2:Hid (Zgn (.mk k x n s ks ts)=ts.all fun t=>Zah t.kind&&(t.kind==Zbt ts)):=HS.out.trans (if_pos k4)
   clear HS k4
   go_wp2_with fail
   clear q0 q5
   go_loopw [17] (fun i wr=>∃ j:Nat,j≤ts.length∧i=.int .i64 j∧Below W1.heap.size W1 wr∧(ts.take j).all (fun t=>Zah t.kind&&(t.kind==Zbt ts))=true) (fun i _=>ts.length - (intOf i).toNat)
   case atStart=>exact ⟨0,Nat.zero_le _,rfl,HB2.out,rfl⟩
   case round =>
    obtain ⟨j,hj,rfl,hbr,hal⟩:=hrel
    have HBR:=Zb hbr
    have HAL:=Zb hal
    obtain ⟨hbw,q0,q5⟩:=HX.out wr hbr
    have HBW:=Zb hbw
    clear hbr hbw hal
    by_cases hlt:j<ts.length
    ·obtain ⟨bl,off,rfl,hbl,hkk⟩:=HT.out.resolve_left (by intro e;subst e;simp at hlt)
     obtain ⟨⟨p0,p1,p2,p3,p4,p5⟩,hx⟩:∃ t,ts[j]?=some t:=⟨_,List.getElem?_eq_getElem hlt⟩
     have hkw:=hkk.below (HBW.out.mono hB) hbl
     obtain ⟨ja,jc,jl,jd,⟨c0,c1,c2,c3,c4,c5⟩,_⟩:=hkw.cells hx
     have d0:=hkw.first (by omega)
     have HX2:=Zb hx
     obtain ⟨fk,hfk⟩:∃ f,Zbt ts=f:=⟨_,rfl⟩
     rw [hfk] at d0
     have HFK:=Zb hfk
     have hl0:(0:Int)<ts.length:=by omega
     have hbs:bl<wr.heap.size:=by have:=HBW.out.size;omega
     have hws:w.heap.size<wr.heap.size:=by have:=HBR.out.size;omega
     obtain ⟨pp,hpp⟩:∃ b,Zah p0=b:=⟨_,rfl⟩
     have HPP:=Zb hpp
     have HPL:Hid (∀ W,Calls Tryz.prog 169 #[.int .i64 p0] W fun e w'=>e=.returned (.bool pp)∧w'=W):=fun W=>by
      rw [← hpp];exact Zlz _ _
     clear hkk hkw hx hfk hpp
     obtain ⟨W3,hW3⟩:∃ W3,wr.alloc (.cells #[.int .i64 p0,.bool p1,.int .i64 p2,.string p3,.slice ja p4.length jc,.slice jl p5.length jd] 60)=W3:=⟨_,rfl⟩
     have hb3:Below wr.heap.size wr W3:=hW3▸(Below.refl _ _).alloc (Nat.le_refl _) _
     have z0:W3.cell? ⟨wr.heap.size,0,none⟩=some (.int .i64 p0):=hW3▸Zaf _ _ _ _ _ rfl
     have z5:W3.cell? ⟨w.heap.size,5,none⟩=some (.slice (some ⟨bl,off,none⟩) ts.length lc):=(hb3.cell (p:=⟨w.heap.size,5,none⟩) hws).trans q5
     have zd:W3.cell? ⟨bl,off,none⟩=some (.int .i64 fk):=(hb3.cell (p:=⟨bl,off,none⟩) hbs).trans d0
     have HB3:=Zb hb3
     have HW3:=Zb hW3
     clear hb3 hW3
     go_wp2_with fail
     rw [HW3.out]
     clear c0 c1 c2 c3 c4 c5 q0 q5 d0
     cases pp with
     | true =>
      go_quiet ((go_at_call 169;exact Calls.quiet_of_same (HPL.out _)))
      by_cases e:p0=fk
      ·have e':(p0 != fk)=false:=by simp [e]
       go_wp2_with fail
       go_roundw
       case rel=>exact ⟨j+1,by omega,by go_num,below_drewN (HBR.out.trans (HB3.out.mono HBR.out.size)) _,Zf0 HAL.out HX2.out (by rw [HFK.out];show (Zah p0&&(p0==fk))=true;rw [HPP.out];simp [e])⟩
       case measure=>simp [intOf];omega
      ·have e':(p0 != fk)=true:=by simp [e]
       have HA:Hid ((ts.all fun t=>Zah t.kind&&(t.kind==Zbt ts))=false):=Zif HX2.out (by rw [HFK.out];simp [Zk.kind,e])
       go_wp2_with fail
       go_ret
       exact ⟨by rw [HD.out,HS2.out,HA.out];rfl,below_drewN (HBW.out.trans (HB3.out.mono HBW.out.size)) _⟩
     | false =>
      have HA:Hid ((ts.all fun t=>Zah t.kind&&(t.kind==Zbt ts))=false):=Zif HX2.out (by simp [Zk.kind,HPP.out])
      go_quiet ((go_at_call 169;exact Calls.quiet_of_same (HPL.out _)))
      go_wp2_with fail
      go_ret
      exact ⟨by rw [HD.out,HS2.out,HA.out];rfl,below_drewN (HBW.out.trans (HB3.out.mono HBW.out.size)) _⟩
    ·have HA:Hid ((ts.all fun t=>Zah t.kind&&(t.kind==Zbt ts))=true):=by
      have:=HAL.out
      rw [List.take_of_length_le (by omega)] at this
      exact this
     go_wp2_with fail
     go_ret
     exact ⟨by rw [HD.out,HS2.out,HA.out];rfl,HBW.out⟩
  ·have k4':(k != 4)=true:=by simp [k4]
   have HS2:Hid (Zgn (.mk k x n s ks ts)=Zah k):=HS.out.trans (if_neg k4)
   clear HS
   go_wp2_with fail
   refine (Zlz _ _).mono ?_
   rintro e w3 ⟨rfl,rfl⟩
   obtain ⟨pp,hpp⟩:∃ b,Zah k=b:=⟨_,rfl⟩
   rw [hpp]
   have HPP:=Zb hpp
   clear hpp
   go_wp2_with fail
   go_ret
   exact ⟨by rw [HD.out,HS2.out,HPP.out];rfl,HBW2.out⟩
 ·have hc':(cn != 0)=true:=by simp [hc]
  have HD:Hid (decide (cn=0)=false):=decide_eq_false hc
  clear hc
  go_wp2_with fail
  go_ret
  exact ⟨by rw [HD.out];rfl,HBW2.out⟩
end
section
open Go.RowKit
set_option linter.all false
abbrev Jca (k:Int) (b:Bool) (n:Int) (s:ByteArray):Value:=.agg #[.int .i64 k,.bool b,.int .i64 n,.string s,.slice none 0 0,.slice none 0 0]
theorem Zw9 (w:World):Calls Tryz.prog 170 #[] w fun e w'=>e=.returned (Jca 0 false 0 ⟨#[]⟩)∧Below w.heap.size w w':=by
 go_enter Tryz.func170,Tryz.ntmps170
 go_wp2
 exact bodyPost_ret (v:=Jca 0 false 0 ⟨#[]⟩) (by simp [results,Tryz.results170,go_sem]) rfl ⟨rfl,(Below.refl _ _).alloc (Nat.le_refl _) _⟩
end
section
open Go.RowKit Go.Shelf Go.WideShapes Go.Lib
set_option linter.all false
def Zbs (w:World) (b:Nat) (ss:List ByteArray):Prop:=∃ es clock,w.heap[b]?=some (.map es clock)∧es.toList.map (·.key)=ss.map Value.string∧(∀ e ∈ es.toList,e.val=.agg #[])∧∀ s ∈ ss,s.size≤maxLen
theorem Zbs.block {w w':World} {b:Nat} {ss:List ByteArray} (h:Zbs w b ss) (hb:w'.heap[b]?=w.heap[b]?):Zbs w' b ss:=by
 obtain ⟨es,clock,h1,h2⟩:=h
 exact ⟨es,clock,hb.trans h1,h2⟩
theorem Zbs.lt {w:World} {b:Nat} {ss:List ByteArray} (h:Zbs w b ss):b<w.heap.size:=by
 obtain ⟨es,clock,h1,_⟩:=h
 exact (Array.getElem?_eq_some_iff.1 h1).1
theorem Zug (w:World):Zbs (w.alloc (.map #[] 0)) w.heap.size []:=⟨#[],0,World.alloc_heap_new _ _,rfl,by simp,by simp⟩
theorem Tryz.underlying172'  : Tryz.prog.underlying 172=some (.map 9 173):=by kernel_rfl
theorem Jah (w:World):(zeroValue 173).run Tryz.prog w=.ok (.agg #[]) w:=by kernel_rfl
theorem Zmb {es:Array MapEntry} {ss:List ByteArray} (h:es.toList.map (·.key)=ss.map Value.string) (hs:∀ s ∈ ss,s.size≤maxLen):∀ e ∈ es.toList,∃ l,Go.keyOf Tryz.prog 9 e.key=some l:=by
 intro e he
 have:e.key ∈ ss.map Value.string:=by rw [← h];exact List.mem_map.2 ⟨e,he,rfl⟩
 obtain ⟨s,hm,e1⟩:=List.mem_map.1 this
 exact ⟨_,by rw [← e1];exact WideMaps.keyOf_string_mk Tryz.underlying9 (hs s hm)⟩
theorem Zxt {w:World} {b:Nat} {ss:List ByteArray} (h:Zbs w b ss) (s:ByteArray) (hs:s.size≤maxLen) (hn:s ∉ ss) :
  ∃ w',(Instr.mapUpdate 172 (.map (some b)) (.string s) (.agg #[])).run Tryz.prog w=.ok () w'∧Zbs w' b (ss++[s])∧w'.heap.size=w.heap.size∧(∀ k,k≠b→w'.heap[k]?=w.heap[k]?)∧Below b w w':=by
 obtain ⟨es,clock,h1,h2,h3,h4⟩:=h
 have hlt:b<w.heap.size:=(Array.getElem?_eq_some_iff.1 h1).1
 have K:=WideMaps.string_law (P:=Tryz.prog) Tryz.underlying9
 have hkey:=WideMaps.keyOf_string_mk (P:=Tryz.prog) Tryz.underlying9 hs
 rcases K.find w hkey es.toList (Zmb h2 h4) with ⟨f1,f2⟩ | ⟨j,e0,f1,f2,f3⟩
 ·refine ⟨{ w with heap:=w.heap.setIfInBounds b (.map (es.push ⟨.string s,.agg #[],clock⟩) (clock+1)) },?_,⟨es.push ⟨.string s,.agg #[],clock⟩,clock+1,?_,?_,?_,?_⟩,?_,?_,⟨rfl,rfl,rfl,?_,?_⟩⟩
  ·simp [Instr.mapUpdate,run_underlying Tryz.underlying172',MapKept.run_getObj_map h1,K.check w false hkey,f1,MapKept.run_setObj_map _ h1,Result.andThen]
  ·simp [hlt]
  ·simp [h2]
  ·intro e he
   simp only [Array.toList_push,List.mem_append,List.mem_singleton] at he
   rcases he with he | rfl
   ·exact h3 e he
   ·rfl
  ·intro x hx
   rcases List.mem_append.1 hx with hx | hx
   ·exact h4 x hx
   ·simp only [List.mem_cons,List.not_mem_nil,or_false] at hx;rw [hx];exact hs
  ·simp
  ·intro k hk
   simp [Array.getElem?_setIfInBounds_ne (Ne.symm hk)]
  ·simp
  ·intro k hk
   have:k≠b:=by omega
   simp [Array.getElem?_setIfInBounds_ne (Ne.symm this)]
 ·exfalso
  have hm0:e0 ∈ es.toList:=List.mem_of_getElem? f2
  have:e0.key ∈ es.toList.map (·.key):=List.mem_map.2 ⟨e0,hm0,rfl⟩
  rw [h2,f3] at this
  obtain ⟨s',hs',e1⟩:=List.mem_map.1 this
  simp only [Value.string.injEq] at e1
  rw [e1] at hs'
  exact hn hs'
end
section
open Go.RowKit Go.Shelf
set_option maxHeartbeats 4000000
set_option maxRecDepth 100000
set_option linter.all false
attribute [local go_sem] Oper.semAt_some
theorem Jv.below' {B:Nat} {w w':World} (h:Below B w w') {ad:Option Addr} {ks:List ByteArray} (hk:Jv B w ad ks):Jv B w' ad ks :=
 hk.imp id fun ⟨b,off,e,hb,hc⟩=>⟨b,off,e,hb,fun i hi=>⟨(h.cell (p:=⟨b,off+i,none⟩) hb).trans (hc i hi).1,(hc i hi).2⟩⟩
def Zgw (ks:List ByteArray):Bool:=ks.all fun x=>Jn x.data.toList
theorem Zgx (ks:List ByteArray) (B:Nat) (ka:Option Addr) (kc:Nat) (w:World) (hB:B≤w.heap.size) (hk:Jv B w ka ks) (h1:ks.length≤kc) (h2:kc≤9223372036854775807) (hs:∀ x ∈ ks,x.size≤140737488355328) (hE:Env w) (hB3:3≤B) :
  Calls Tryz.prog 85 #[.slice ka ks.length kc] w fun e w'=>e=.returned (.bool (Zgw ks))∧Below w.heap.size w w':=by
 have HK:=Zb hk
 have HE:=Zb hE
 have HS:=Zb hs
 obtain ⟨m,hm⟩:∃ m,ks.length=m:=⟨_,rfl⟩
 rw [hm] at h1 ⊢
 have HM:=Zb hm
 clear hm hk hE hs
 go_enter Tryz.func85,Tryz.ntmps85
 go_wp2_with fail
 go_loopw [7] (fun i wr=>∃ j:Nat,j≤m∧i=.int .i64 j∧Below w.heap.size w wr∧Zgw (ks.take j)=true) (fun i _=>m - (intOf i).toNat)
 case atStart=>exact ⟨0,Nat.zero_le _,rfl,Below.refl _ _,rfl⟩
 case round =>
  obtain ⟨j,hj,rfl,hb,hn⟩:=hrel
  have HB:=Zb hb
  have HN:=Zb hn
  clear hb hn
  by_cases hlt:j<m
  ·have hlt':(j:Int)<m:=by omega
   obtain ⟨b,off,f2,hbl,hat⟩:=(HK.out.below' (HB.out.mono hB)).resolve_left (by intro e;rw [e] at HM;have:=HM.out;simp at this;omega)
   have hx:ks[j]?=some (ks.getD j ⟨#[]⟩):=by
    have hl:j<ks.length:=by rw [HM.out];exact hlt
    simp [List.getD,hl]
   have c0:=(hat j (by rw [HM.out];exact hlt)).1
   have hxs:=HS.out _ (List.mem_of_getElem? hx)
   have HX:=Zb hx
   generalize ks.getD j ⟨#[]⟩=x at c0 hxs HX
   have HC:=Zb (Zel x hxs wr (HE.out.below HB.out (Nat.le_trans hB3 hB)))
   have HF:Hid (Jn x.data.toList=false→Zgw ks=false):=fun e=>by
    unfold Zgw
    rw [List.all_eq_false]
    exact ⟨x,List.mem_of_getElem? HX.out,by simp [e]⟩
   have HG:Hid (Jn x.data.toList=true→Zgw (ks.take (j+1))=true):=fun e=>by
    have h:=HN.out
    unfold Zgw at h ⊢
    rw [List.take_add_one,HX.out,List.all_append,h]
    simp [e]
   generalize Jn x.data.toList=u at HC HF HG
   subst f2
   clear hat hxs hx
   go_wp2_with fail
   refine HC.out.mono ?_
   rintro e w2 ⟨rfl,hb2⟩
   have HB2:=Zb (Za HB.out hb2)
   clear hb2 c0 HC
   cases u with
   | true =>
    go_wp2_with fail
    go_roundw
    case rel=>exact ⟨j+1,by omega,by go_num,HB2.out,HG.out (by simp)⟩
    case measure=>simp [intOf];omega
   | false =>
    go_wp2_with fail
    go_ret
    exact ⟨by rw [HF.out (by simp)];rfl,HB2.out⟩
  ·have hlt':¬ (j:Int)<m:=by omega
   have HZ:Hid (Zgw ks=true):=by
    have h:=HN.out
    rw [List.take_of_length_le (by rw [HM.out];omega)] at h
    exact h
   go_wp2_with fail
   go_ret
   exact ⟨by rw [HZ.out];rfl,HB.out⟩
def Zf5  : Zk:=.mk 0 false 0 ⟨#[]⟩ [] []
theorem Zrm (B:Nat) (w:World):Zaw B w (Jca 0 false 0 ⟨#[]⟩) Zf5:=by
 unfold Zf5
 simp only [Zaw]
 exact ⟨none,0,none,0,rfl,⟨by unfold maxLen;decide,Nat.le_refl _,Nat.zero_le _,Nat.le_refl _,Nat.zero_le _⟩,Or.inl (by simp),Or.inl (by simp)⟩
theorem Zmt  : Zct Zf5:=⟨by decide,by decide⟩
theorem Zjq (T:Zk) (B:Nat) (v:Value) (w:World) (hB:B≤w.heap.size) (hv:Zaw B w v T) (hE:Env w) (hm:Zct T):Calls Tryz.prog 130 #[v] w fun e w'=>e=.returned (.bool (Ze9 T Zf5))∧Below w.heap.size w w':=by
 obtain ⟨k,x,n,s,ks,ts⟩:=T
 have HV:=Zb hv
 simp only [Zaw] at hv
 obtain ⟨ka,kc,la,lc,rfl,_,_,_⟩:=hv
 have HE:=Zb hE
 have HMo:=Zb hm
 clear hE hm
 go_enter Tryz.func130,Tryz.ntmps130
 go_upto_region 1 with fail
 generalize hW1:World.alloc _ _=W1
 have HB1:Hid (Below w.heap.size w W1):=by rw [← hW1];exact (Below.refl _ _).alloc (Nat.le_refl _) _
 have hr:=Zl w #[.int .i64 k,.bool x,.int .i64 n,.string s,.slice ka ks.length kc,.slice la ts.length lc] 60
 rw [hW1] at hr
 have c0:=hr.cell 0 rfl
 have c1:=hr.cell 1 rfl
 have c2:=hr.cell 2 rfl
 have c3:=hr.cell 3 rfl
 have c4:=hr.cell 4 rfl
 have c5:=hr.cell 5 rfl
 have HR:=Zb hr
 clear hW1 hr
 have HS:Hid (∀ W,Below W1.heap.size W1 W→Calls Tryz.prog 152 #[.agg #[.int .i64 k,.bool x,.int .i64 n,.string s,.slice ka ks.length kc,.slice la ts.length lc],Jca 0 false 0 ⟨#[]⟩] W fun e w'=>e=.returned (.bool (Ze9 (.mk k x n s ks ts) Zf5))∧Below w.heap.size w w'):=fun W hW=>by
  have hb:=Za HB1.out hW
  refine (Zw2 _ _ B _ _ W (Nat.le_trans hB hb.size) (HV.out.below (hb.mono hB)) (Zrm _ _) (HE.out.below hb HE.out.room).tabs HMo.out Zmt).mono ?_
  rintro e w' ⟨rfl,h⟩
  exact ⟨rfl,Za hb h⟩
 have HN:Hid (∀ W,Below W1.heap.size W1 W→Calls Tryz.prog 170 #[] W fun e w'=>e=.returned (Jca 0 false 0 ⟨#[]⟩)∧Below W1.heap.size W1 w'∧w'.cell? ⟨w.heap.size,0,none⟩=some (.int .i64 k)∧w'.cell? ⟨w.heap.size,1,none⟩=some (.bool x)∧w'.cell? ⟨w.heap.size,2,none⟩=some (.int .i64 n)∧w'.cell? ⟨w.heap.size,3,none⟩=some (.string s)∧w'.cell? ⟨w.heap.size,4,none⟩=some (.slice ka ks.length kc)∧w'.cell? ⟨w.heap.size,5,none⟩=some (.slice la ts.length lc)):=fun W hW=>by
  refine (Zw9 W).mono ?_
  rintro e w' ⟨rfl,h⟩
  have hb:=Za hW h
  have hr:=HR.out.below hb HR.out.lt
  exact ⟨rfl,hb,hr.cell 0 rfl,hr.cell 1 rfl,hr.cell 2 rfl,hr.cell 3 rfl,hr.cell 4 rfl,hr.cell 5 rfl⟩
 have HD:Hid (Below W1.heap.size W1 W1.drew):=⟨rfl,rfl,rfl,Nat.le_refl _,fun _ _=>rfl⟩
 obtain ⟨u,hu⟩:∃ u,Ze9 (.mk k x n s ks ts) Zf5=u:=⟨_,rfl⟩
 rw [hu] at HS
 have HU:=Zb hu
 clear hu
 go_region_with (first | (refine (HN.out _ HD.out).mono ?_;rintro e w2 ⟨rfl,hb2,d0,d1,d2,d3,d4,d5⟩) | (refine (HS.out _ (by first | exact HD.out | assumption)).mono ?_;rintro e w3 ⟨rfl,hb3⟩))
 all_goals
  go_wp2_with fail
  go_ret
  exact ⟨by rw [HU.out];rfl,hb3⟩
end
