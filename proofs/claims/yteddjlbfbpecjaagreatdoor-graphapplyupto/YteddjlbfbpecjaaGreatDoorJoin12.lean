/- Equal: values that may not be are held for nothing. -/
import Derived.Test.YteddjlbfbpecjaaGreatDoorJoin11
import Derived.Test.YteddjlbfbpecjaaGreatDoorCheck
namespace Go.Proofs.YteddjlbfbpecjaaGreatDoor
section
open Go.RowKit Go.Shelf
set_option linter.all false
def Zct (t:Zk):Prop:=t.height<100000000∧Ja (t.pre 1)<4611686018427387904
set_option maxHeartbeats 1000000 in
theorem Znp (ts:List Zk) (B:Nat) (la:Option Addr) (lc:Nat) (w:World) (hB:B≤w.heap.size) (hl:Za9 B w la ts) (h1:ts.length≤lc) (h2:lc≤maxLen) (hT:Zla w) (hm:∀ t ∈ ts,Zct t) :
  Calls Tryz.prog 185 #[.slice la ts.length lc] w fun e w'=>e=.returned (.bool (ts.any fun t=>checkN t != 0))∧Below w.heap.size w w':=by
 unfold maxLen at h2
 have HM:=Zb hm
 clear hm
 go_enter Tryz.func185,Tryz.ntmps185
 go_wp2_with fail
 go_loopw [7] (fun i wr=>∃ j:Nat,j≤ts.length∧i=.int .i64 j∧Below w.heap.size w wr∧(ts.take j).any (fun t=>checkN t != 0)=false) (fun i _=>ts.length - (intOf i).toNat)
 case atStart=>exact ⟨0,Nat.zero_le _,rfl,Below.refl _ _,rfl⟩
 case round =>
  obtain ⟨j,hj,rfl,hbr,hno⟩:=hrel
  have HNO:=Zb hno
  clear hno
  by_cases hlt:j<ts.length
  ·obtain ⟨bl,off,rfl,hbl,hkl⟩:=hl.resolve_left (by intro e;subst e;simp at hlt)
   obtain ⟨⟨p0,p1,p2,p3,p4,p5⟩,hx⟩:∃ t,ts[j]?=some t:=⟨_,List.getElem?_eq_getElem hlt⟩
   obtain ⟨ja,jc,jl,jd,⟨c0,c1,c2,c3,c4,c5⟩,hlx⟩:=(hkl.below (hbr.mono hB) hbl).cells hx
   have hmx:=HM.out _ (List.mem_of_getElem? hx)
   have HX:=Zb hx
   have hal:Below wr.heap.size wr (wr.alloc (.cells #[.int .i64 p0,.bool p1,.int .i64 p2,.string p3,.slice ja p4.length jc,.slice jl p5.length jd] 60)):=(Below.refl _ _).alloc (Nat.le_refl _) _
   have HC:=Zb (Zlh _ _ _ ((hlx.below (hal.mono (Nat.le_trans hB hbr.size))).mono (Nat.le_trans (Nat.le_trans hB hbr.size) hal.size)) ((hT.below hbr).below hal) hmx.1 hmx.2)
   clear hx hkl hlx hmx hal
   go_wp2_with fail
   refine HC.out.mono ?_
   rintro e w' ⟨rfl,hk2⟩
   have HB2:Hid (Below w.heap.size w w'):=Za hbr (Ze3 hk2)
   generalize hcn:checkN (.mk p0 p1 p2 p3 p4 p5)=cn at *
   have HCN:=Zb hcn
   clear hk2 HC hcn c0 c1 c2 c3 c4 c5
   by_cases z:cn=0
   ·have z':(cn != 0)=false:=by simp [z]
    go_wp2_with fail
    go_roundw
    case rel =>
     refine ⟨j+1,by omega,by go_num,HB2.out,?_⟩
     rw [List.take_add_one,HX.out,List.any_append,HNO.out]
     simp [HCN.out,z]
    case measure=>simp [intOf];omega
   ·have z':(cn != 0)=true:=by simp [z]
    go_wp2_with fail
    go_ret
    refine ⟨?_,HB2.out⟩
    have:ts.any (fun t=>checkN t != 0)=true:=by
     rw [List.any_eq_true]
     exact ⟨_,List.mem_of_getElem? HX.out,by rw [HCN.out];exact z'⟩
    rw [this];rfl
  ·go_wp2_with fail
   go_ret
   refine ⟨?_,hbr⟩
   have:=HNO.out
   rw [List.take_of_length_le (by omega)] at this
   rw [this];rfl
theorem Zxq {W:World} {bl B:Nat} {k:Int} {x:Bool} {n:Int} {s:ByteArray} {ka:Option Addr} {kc:Nat} {la:Option Addr} {lc:Nat} {ks:List ByteArray} {ts:List Zk}
  {k':Int} {x':Bool} {n':Int} {s':ByteArray} {ka':Option Addr} {kc':Nat} {la':Option Addr} {lc':Nat} {ks':List ByteArray} {ts':List Zk}
  (hc:W.heap[bl]?=some (.cells #[.int .i64 k,.bool x,.int .i64 n,.string s,.slice ka ks.length kc,.slice la ts.length lc,.int .i64 k',.bool x',.int .i64 n',.string s',.slice ka' ks'.length kc',.slice la' ts'.length lc'] 60 (0,0)))
  (h1:Zaw B W (.agg #[.int .i64 k,.bool x,.int .i64 n,.string s,.slice ka ks.length kc,.slice la ts.length lc]) (.mk k x n s ks ts))
  (h2:Zaw B W (.agg #[.int .i64 k',.bool x',.int .i64 n',.string s',.slice ka' ks'.length kc',.slice la' ts'.length lc']) (.mk k' x' n' s' ks' ts')) :
  KidsLie B W bl 0 [.mk k x n s ks ts,.mk k' x' n' s' ks' ts']:=by
 have hcell:∀ i v,(#[Value.int .i64 k,.bool x,.int .i64 n,.string s,.slice ka ks.length kc,.slice la ts.length lc,.int .i64 k',.bool x',.int .i64 n',.string s',.slice ka' ks'.length kc',.slice la' ts'.length lc']:Array Value)[i]?=some v→W.cell? ⟨bl,i,none⟩=some v:=by
  intro i v hi;unfold World.cell?;simp only [hc];simpa using hi
 simp only [KidsLie]
 refine ⟨⟨_,_,_,_,_,_,⟨hcell 0 _ rfl,hcell 1 _ rfl,hcell 2 _ rfl,hcell 3 _ rfl,hcell 4 _ rfl,hcell 5 _ rfl⟩,h1⟩,⟨_,_,_,_,_,_,⟨hcell 6 _ rfl,hcell 7 _ rfl,hcell 8 _ rfl,hcell 9 _ rfl,hcell 10 _ rfl,hcell 11 _ rfl⟩,h2⟩,trivial⟩
end
section
open Go.RowKit Go.Shelf
set_option linter.all false
def Ze9 (T T':Zk):Bool:=decide (checkN T=0∧checkN T'=0)&&(Zm0 T T'==0)
set_option maxHeartbeats 1000000 in
theorem Zw2 (T T':Zk) (B:Nat) (v v':Value) (w:World) (hB:B≤w.heap.size) (hv:Zaw B w v T) (hv':Zaw B w v' T') (hT:Zla w) (hm:Zct T) (hm':Zct T') :
  Calls Tryz.prog 152 #[v,v'] w fun e w'=>e=.returned (.bool (Ze9 T T'))∧Below w.heap.size w w':=by
 obtain ⟨k,x,n,s,ks,ts⟩:=T
 obtain ⟨k',x',n',s',ks',ts'⟩:=T'
 have HV:=Zb hv
 have HV':=Zb hv'
 simp only [Zaw] at hv hv'
 obtain ⟨ka,kc,la,lc,rfl,_,_,_⟩:=hv
 obtain ⟨ka',kc',la',lc',rfl,_,_,_⟩:=hv'
 obtain ⟨W3,hW3⟩:∃ W3,((w.alloc (.cells #[.int .i64 k,.bool x,.int .i64 n,.string s,.slice ka ks.length kc,.slice la ts.length lc] 60)).alloc (.cells #[.int .i64 k',.bool x',.int .i64 n',.string s',.slice ka' ks'.length kc',.slice la' ts'.length lc'] 60)).alloc (.cells #[.int .i64 k,.bool x,.int .i64 n,.string s,.slice ka ks.length kc,.slice la ts.length lc,.int .i64 k',.bool x',.int .i64 n',.string s',.slice ka' ks'.length kc',.slice la' ts'.length lc'] 60)=W3:=⟨_,rfl⟩
 have hbx:∀ W,Below W3.heap.size W3 W→Below w.heap.size w W∧(∀ i v,(#[Value.int .i64 k,.bool x,.int .i64 n,.string s,.slice ka ks.length kc,.slice la ts.length lc]:Array Value)[i]?=some v→W.cell? ⟨w.heap.size,i,none⟩=some v) ∧
   (∀ i v,(#[Value.int .i64 k',.bool x',.int .i64 n',.string s',.slice ka' ks'.length kc',.slice la' ts'.length lc']:Array Value)[i]?=some v→W.cell? ⟨w.heap.size+1,i,none⟩=some v):=fun W hb=>by
  rw [← hW3] at hb
  exact Zf4 (((Below.refl _ _).alloc (Nat.le_refl _) _).trans (hb.mono (by simp)))
 have hc3:W3.heap[w.heap.size+1+1]?=some (.cells #[.int .i64 k,.bool x,.int .i64 n,.string s,.slice ka ks.length kc,.slice la ts.length lc,.int .i64 k',.bool x',.int .i64 n',.string s',.slice ka' ks'.length kc',.slice la' ts'.length lc'] 60 (0,0)):=by
  rw [← hW3]
  have:=World.alloc_heap_new ((w.alloc (.cells #[.int .i64 k,.bool x,.int .i64 n,.string s,.slice ka ks.length kc,.slice la ts.length lc] 60)).alloc (.cells #[.int .i64 k',.bool x',.int .i64 n',.string s',.slice ka' ks'.length kc',.slice la' ts'.length lc'] 60)) (.cells #[.int .i64 k,.bool x,.int .i64 n,.string s,.slice ka ks.length kc,.slice la ts.length lc,.int .i64 k',.bool x',.int .i64 n',.string s',.slice ka' ks'.length kc',.slice la' ts'.length lc'] 60)
  simpa only [World.size_alloc] using this
 have hlt3:w.heap.size+1+1<W3.heap.size:=by rw [← hW3];simp
 have hb3:Below w.heap.size w W3:=(hbx W3 (Below.refl _ _)).1
 have HV3:=Zb ((HV.out.below (hb3.mono hB)).mono (Nat.le_trans hB hb3.size))
 have HV3':=Zb ((HV'.out.below (hb3.mono hB)).mono (Nat.le_trans hB hb3.size))
 have HC:=Zb (Znp [.mk k x n s ks ts,.mk k' x' n' s' ks' ts'] W3.heap.size (some ⟨w.heap.size+1+1,0,none⟩) 2 W3 (Nat.le_refl _) (.inr ⟨_,_,rfl,hlt3,Zxq hc3 HV3.out HV3'.out⟩) (Nat.le_refl _) (by unfold maxLen;omega) (hT.below hb3)
  (by intro t ht;simp only [List.mem_cons,List.not_mem_nil,or_false] at ht;rcases ht with rfl | rfl;exact hm;exact hm'))
 have HBX:=Zb hbx
 have HW3:=Zb hW3
 clear hbx hW3 hc3 hm hm'
 go_enter Tryz.func152,Tryz.ntmps152
 go_wp2_with fail
 rw [HW3.out]
 refine HC.out.mono ?_
 rintro e w4 ⟨rfl,hb4⟩
 obtain ⟨hbw,hq,hr⟩:=HBX.out w4 hb4
 have q0:=hq 0 _ rfl
 have q1:=hq 1 _ rfl
 have q2:=hq 2 _ rfl
 have q3:=hq 3 _ rfl
 have q4:=hq 4 _ rfl
 have q5:=hq 5 _ rfl
 have r0:=hr 0 _ rfl
 have r1:=hr 1 _ rfl
 have r2:=hr 2 _ rfl
 have r3:=hr 3 _ rfl
 have r4:=hr 4 _ rfl
 have r5:=hr 5 _ rfl
 have HQ:=Zb (Zvh _ W3.heap.size _ _ _ w4 hb4.size (HV3.out.below hb4) (HV3'.out.below hb4))
 have hsz:=hb4.size
 clear hq hr HBX HC HW3 hb4
 cases hany:[Zk.mk k x n s ks ts,.mk k' x' n' s' ks' ts'].any (fun t=>checkN t != 0) with
 | true =>
  have HN:Hid (Ze9 (.mk k x n s ks ts) (.mk k' x' n' s' ks' ts')=false):=by
   show _=_
   unfold Ze9
   rw [decide_eq_false,Bool.false_and]
   rintro ⟨h1,h2⟩
   simp [h1,h2] at hany
  clear hany
  go_wp2_with fail
  go_ret
  exact ⟨by rw [HN.out];rfl,hbw⟩
 | false =>
  have HN:Hid (Ze9 (.mk k x n s ks ts) (.mk k' x' n' s' ks' ts')=(Zm0 (.mk k x n s ks ts) (.mk k' x' n' s' ks' ts')==0)):=by
   show _=_
   unfold Ze9
   simp at hany
   rw [decide_eq_true hany,Bool.true_and]
  generalize Zm0 (.mk k x n s ks ts) (.mk k' x' n' s' ks' ts')=ot at *
  clear hany
  go_wp2_with fail
  refine HQ.out.mono ?_
  rintro e w5 ⟨rfl,hb5⟩
  have hfin:=Za hbw hb5
  clear hb5 q0 q1 q2 q3 q4 q5 r0 r1 r2 r3 r4 r5
  go_wp2_with fail
  go_ret
  exact ⟨by rw [HN.out];rfl,hfin⟩
end
section
open Go.RowKit Go.Shelf
set_option linter.all false
def Zah (k:Int):Bool:=k==1||k==2||k==3
theorem Zlz (k:Int) (w:World):Calls Tryz.prog 169 #[.int .i64 k] w fun e w'=>e=.returned (.bool (Zah k))∧w'=w:=by
 go_enter Tryz.func169,Tryz.ntmps169
 by_cases h1:k=1
 ·subst h1;go_wp2_with fail;go_ret;exact ⟨rfl,rfl⟩
 by_cases h2:k=2
 ·subst h2;go_wp2_with fail;go_ret;exact ⟨rfl,rfl⟩
 go_wp2_with fail
 go_ret
 have e1:(k==1)=false:=by simpa using h1
 have e2:(k==2)=false:=by simpa using h2
 refine ⟨?_,rfl⟩
 unfold Zah
 rw [e1,e2]
 rfl
end
section
open Go.RowKit Go.Shelf
set_option linter.all false
def Zbt (ts:List Zk):Int:=match ts with | []=>0 | t::_=>t.kind
def Zui (ts:List Zk):Bool:=ts.all fun t=>t.kind==Zbt ts
def Zeb (T:Zk):Bool:=Zui T.kids&&(if T.kind=4 then (if T.kids=[] then true else Zah (Zbt T.kids)) else Zah T.kind)
def Zgn (T:Zk):Bool:=if T.kind=4 then T.kids.all fun t=>Zah t.kind&&(t.kind==Zbt T.kids) else Zah T.kind
theorem Zf0 {p:Zk→Bool} {ts:List Zk} {j:Nat} {t:Zk} (h:(ts.take j).all p=true) (hx:ts[j]?=some t) (ht:p t=true):(ts.take (j+1)).all p=true:=by
 rw [List.take_add_one,hx,List.all_append,h];simp [ht]
theorem Zif {p:Zk→Bool} {ts:List Zk} {j:Nat} {t:Zk} (hx:ts[j]?=some t) (ht:p t=false):ts.all p=false:=by
 rw [List.all_eq_false];exact ⟨t,List.mem_of_getElem? hx,by simp [ht]⟩
theorem KidsLie.first {B bl off:Nat} {w:World} {ts:List Zk} (h:KidsLie B w bl off ts) (h0:0<ts.length):w.cell? ⟨bl,off,none⟩=some (.int .i64 (Zbt ts)):=by
 obtain ⟨⟨p0,p1,p2,p3,p4,p5⟩,hx⟩:∃ t,ts[0]?=some t:=⟨_,List.getElem?_eq_getElem h0⟩
 obtain ⟨_,_,_,_,⟨c0,_⟩,_⟩:=h.cells hx
 cases ts with
 | nil=>simp at h0
 | cons t r =>
  simp at hx;subst hx
  simpa [Zbt,Zk.kind] using c0
end
