/- The order of two values. A block of cells, read and written. -/
import Derived.Test.YteddjlbfbpecjaaGreatDoorJoin5
import Derived.Test.YteddjlbfbpecjaaGreatDoorJoin3
namespace Go.Proofs.YteddjlbfbpecjaaGreatDoor
open Go.RowKit Go.Shelf
set_option maxHeartbeats 4000000
set_option linter.unusedVariables false
mutual
def ordT  : Tree→Tree→Int
 | .mk k b n s ks ts,.mk k' b' n' s' ks' ts' =>
  if cmpI (rankN k) (rankN k')=0 then
   (if k=5 then (if agS ks ks'=0 then ordL ts ts' else agS ks ks')
     else if k=4 then ordL ts ts'
     else if k=3 then Lib.compareBytes s.data.toList s'.data.toList
     else if k=1 then cmpI (truthI b) (truthI b')
     else cmpI n n')
  else cmpI (rankN k) (rankN k')
def ordL  : List Tree→List Tree→Int
 | [],[]=>0
 | [],_::_=>-1
 | _::_,[]=>1
 | a::r,b::t=>if ordT a b=0 then ordL r t else ordT a b
end
theorem ordL_drop {a b:List Tree} {i:Nat} {x y:Tree} (h1:a[i]?=some x) (h2:b[i]?=some y):ordL (a.drop i) (b.drop i)=(if ordT x y=0 then ordL (a.drop (i+1)) (b.drop (i+1)) else ordT x y):=by
 obtain ⟨l1,rfl⟩:=List.getElem?_eq_some_iff.1 h1
 obtain ⟨l2,rfl⟩:=List.getElem?_eq_some_iff.1 h2
 rw [List.drop_eq_getElem_cons l1,List.drop_eq_getElem_cons l2,ordL]
theorem ordL_end {a b:List Tree} {i:Nat} (h:i=min a.length b.length):ordL (a.drop i) (b.drop i)=cmpI a.length b.length:=by
 unfold cmpI
 by_cases h1:a.length<b.length
 ·rw [if_pos (by omega),List.drop_of_length_le (by omega),List.drop_eq_getElem_cons (by omega:i<b.length),ordL]
 ·rw [if_neg (by omega)]
  by_cases h2:b.length<a.length
  ·rw [if_pos (by omega),List.drop_of_length_le (l:=b) (by omega),List.drop_eq_getElem_cons (by omega:i<a.length),ordL]
  ·rw [if_neg (by omega),List.drop_of_length_le (by omega),List.drop_of_length_le (by omega),ordL]
def ListLies (B:Nat) (w:World) (la:Option Addr) (ts:List Tree):Prop:=ts=[]∨∃ bl off,la=some ⟨bl,off,none⟩∧bl<B∧KidsLie B w bl off ts
theorem ListLies.below {B:Nat} {w w':World} {la:Option Addr} {ts:List Tree} (h:ListLies B w la ts) (hb:Below B w w'):ListLies B w' la ts:=by
 rcases h with h | ⟨bl,off,e,hl,hk⟩
 ·exact .inl h
 ·exact .inr ⟨bl,off,e,hl,hk.below hb hl⟩
theorem against_valuesD (a:List Tree) (ih:∀ t ∈ a,∀ (B:Nat) (v v':Value) (T':Tree) (w:World),B≤w.heap.size→Lies B w v t→Lies B w v' T'→Calls Tryz.prog 186 #[v,v'] w fun e w'=>e=.returned (.int .i64 (ordT t T'))∧Below w.heap.size w w'∧w.drawn≤w'.drawn)
  (B:Nat) (la lb:Option Addr) (ca cb:Nat) (b:List Tree) (w:World) (hB:B≤w.heap.size) (ha:ListLies B w la a) (hb:ListLies B w lb b) (h1:a.length≤ca) (h2:ca≤maxLen) (h3:b.length≤cb) (h4:cb≤maxLen) :
  Calls Tryz.prog 224 #[.slice la a.length ca,.slice lb b.length cb,.func (.func 186) #[] #[]] w fun e w'=>e=.returned (.int .i64 (ordL a b))∧Below w.heap.size w w'∧w.drawn≤w'.drawn:=by
 unfold maxLen at h2 h4
 have HN:Hid (min (a.length:Int) (b.length:Int)=((min a.length b.length:Nat):Int)):=by show _=_;omega
 go_enter Tryz.func224,Tryz.ntmps224
 go_wp2_with fail
 rw [HN.out]
 generalize hm:min a.length b.length=m at *
 have hma:m≤a.length:=by omega
 have hmb:m≤b.length:=by omega
 have HM:Hid (m=min a.length b.length):=hm.symm
 clear hm
 go_loopw [14] (fun i wr=>∃ j:Nat,j≤m∧i=.int .i64 j∧Below w.heap.size w wr∧w.drawn≤wr.drawn∧ordL (a.drop j) (b.drop j)=ordL a b) (fun i _=>m - (intOf i).toNat)
 case atStart=>exact ⟨0,Nat.zero_le _,rfl,Below.refl _ _,Nat.le_refl _,rfl⟩
 case round =>
  obtain ⟨j,hj,rfl,hbr,hdr,hag⟩:=hrel
  have HDR:=hidE hdr
  clear hdr
  have HAG:Hid (ordL (a.drop j) (b.drop j)=ordL a b):=hag
  clear hag
  by_cases hlt:j<m
  ·obtain ⟨bl,off,rfl,hbl,hk⟩:=ha.resolve_left (by intro e;subst e;simp at hma;omega)
   obtain ⟨bl',off',rfl,hbl',hk'⟩:=hb.resolve_left (by intro e;subst e;simp at hmb;omega)
   have hja:j<a.length:=by omega
   have hjb:j<b.length:=by omega
   obtain ⟨⟨k,x,n,s,ks,ts⟩,hx⟩:∃ t,a[j]?=some t:=⟨_,List.getElem?_eq_getElem hja⟩
   obtain ⟨⟨k',x',n',s',ks',ts'⟩,hy⟩:∃ t,b[j]?=some t:=⟨_,List.getElem?_eq_getElem hjb⟩
   have HST:=hidE (ordL_drop hx hy)
   have hkr:=hk.below (hbr.mono hB) hbl
   have hkr':=hk'.below (hbr.mono hB) hbl'
   obtain ⟨ka,kc,la,lc,⟨c0,c1,c2,c3,c4,c5⟩,hl⟩:=hkr.cells hx
   obtain ⟨ka',kc',la',lc',⟨d0,d1,d2,d3,d4,d5⟩,hl'⟩:=hkr'.cells hy
   have HIH:=hidE (ih _ (List.mem_of_getElem? hx))
   clear hx hy hk hk' hkr hkr'
   have hL:=hidE hl
   have hL':=hidE hl'
   clear hl hl'
   have hBr:B≤wr.heap.size:=Nat.le_trans hB hbr.size
   go_wp2_with fail
   have HC:=hidE (HIH.out B _ _ _ wr.drew (show B≤wr.drew.heap.size from hBr) (hL.out.below (Below.refl B wr).drew) (hL'.out.below (Below.refl B wr).drew))
   go_region_with (go_at_call 186;refine HC.out.mono ?_;rintro e w' ⟨rfl,hk2,hd2⟩)
   all_goals
    have HB2:Hid (Below w.heap.size w w'):=hbr.drew.trans (hk2.mono hbr.size)
    have HD2:Hid (w.drawn≤w'.drawn):=Nat.le_trans HDR.out (Nat.le_trans (Nat.le_succ _) hd2)
    clear hd2
    generalize hcm:ordT (.mk k x n s ks ts) (.mk k' x' n' s' ks' ts')=cm at *
    have HCM:=hidE hcm
    clear hcm hk2 c0 c1 c2 c3 c4 c5 d0 d1 d2 d3 d4 d5
    by_cases h0:cm=0
    ·have h0':(cm != 0)=false:=by simp [h0]
     go_wp2_with fail
     go_roundw
     case rel=>exact ⟨j+1,by omega,by go_num,HB2.out,HD2.out,by have:=HST.out;rw [if_pos h0] at this;rw [← this];exact HAG.out⟩
     case measure=>simp [intOf];omega
    ·have h0':(cm != 0)=true:=by simp [h0]
     go_wp2_with fail
     go_ret
     refine ⟨?_,HB2.out,HD2.out⟩
     have:=HST.out;rw [if_neg h0] at this;rw [← HAG.out,this];rfl
  ·go_wp2_with fail
   refine (cmp_int _ _ _).mono ?_
   rintro e w' ⟨rfl,rfl⟩
   go_wp2_with fail
   go_ret
   refine ⟨?_,hbr,HDR.out⟩
   rw [← HAG.out,ordL_end (by have:=HM.out;omega)];rfl
theorem two_boxes {w w1:World} {A A':Array Value} (hb:Below ((w.alloc (.cells A 60)).alloc (.cells A' 60)).heap.size ((w.alloc (.cells A 60)).alloc (.cells A' 60)) w1) :
  Below w.heap.size w w1∧(∀ i v,A[i]?=some v→w1.cell? ⟨w.heap.size,i,none⟩=some v)∧(∀ i v,A'[i]?=some v→w1.cell? ⟨w.heap.size+1,i,none⟩=some v):=by
 simp only [World.size_alloc] at hb
 refine ⟨(((Below.refl _ w).alloc (Nat.le_refl _) _).alloc (by simp) _).trans (hb.mono (by omega)),fun i v hi=>?_,fun i v hi=>?_⟩
 ·rw [hb.cell (p:=⟨w.heap.size,i,none⟩) (by show w.heap.size<_;omega),World.cell?_of_block (Below.heap_alloc _ _ _ (by simp))]
  exact cell_new _ _ _ _ _ hi
 ·rw [hb.cell (p:=⟨w.heap.size+1,i,none⟩) (by show w.heap.size+1<_;omega)]
  have:=cell_new (w.alloc (.cells A 60)) A' 60 i v hi
  rwa [World.size_alloc] at this
theorem order_anyD  : ∀ (T:Tree) (B:Nat) (v v':Value) (T':Tree) (w:World),B≤w.heap.size→Lies B w v T→Lies B w v' T' →
  Calls Tryz.prog 186 #[v,v'] w fun e w'=>e=.returned (.int .i64 (ordT T T'))∧Below w.heap.size w w'∧w.drawn≤w'.drawn:=by
 refine Tree.ind ?_
 intro k x n s ks ts ih B v v' T' w hB hv hv'
 obtain ⟨k',x',n',s',ks',ts'⟩:=T'
 simp only [Lies] at hv hv'
 obtain ⟨ka,kc,la,lc,rfl,⟨hs1,hs2,hs3,hs4,hs5⟩,hk,ht⟩:=hv
 obtain ⟨ka',kc',la',lc',rfl,⟨gs1,gs2,gs3,gs4,gs5⟩,hk',ht'⟩:=hv'
 have ht0:ListLies B w la ts:=ht
 have ht0':ListLies B w la' ts':=ht'
 have HAV:=hidE (against_valuesD ts ih)
 clear ih ht ht'
 have hord:ordT (.mk k x n s ks ts) (.mk k' x' n' s' ks' ts')=(if cmpI (rankN k) (rankN k')=0 then
   (if k=5 then (if agS ks ks'=0 then ordL ts ts' else agS ks ks') else if k=4 then ordL ts ts' else if k=3 then Lib.compareBytes s.data.toList s'.data.toList else if k=1 then cmpI (truthI x) (truthI x') else cmpI n n')
  else cmpI (rankN k) (rankN k')):=by rw [ordT]
 have HO:=hidE hord
 clear hord
 generalize ordT (.mk k x n s ks ts) (.mk k' x' n' s' ks' ts')=res at *
 have hW2:Below w.heap.size w ((w.alloc (.cells #[.int .i64 k,.bool x,.int .i64 n,.string s,.slice ka ks.length kc,.slice la ts.length lc] 60)).alloc (.cells #[.int .i64 k',.bool x',.int .i64 n',.string s',.slice ka' ks'.length kc',.slice la' ts'.length lc'] 60)):=((Below.refl _ w).alloc (Nat.le_refl _) _).alloc (by simp) _
 have HW2:=hidE hW2
 clear hW2
 go_enter Tryz.func186,Tryz.ntmps186
 go_wp2_with fail
 go_quiet (first | (go_at_call 222;exact Calls.quiet_of_same (rank_any _ _)) | (go_at_call 221;exact Calls.quiet_of_same (cmp_int _ _ _)))
 generalize hcr:cmpI (rankN k) (rankN k')=cr at *
 have HCR:=hidE hcr
 clear hcr
 generalize hW3:World.drewN _ nq=W3
 have hb3:=two_boxes (w:=w) (w1:=W3) (A:=#[.int .i64 k,.bool x,.int .i64 n,.string s,.slice ka ks.length kc,.slice la ts.length lc]) (A':=#[.int .i64 k',.bool x',.int .i64 n',.string s',.slice ka' ks'.length kc',.slice la' ts'.length lc']) (by rw [← hW3];exact below_drewN (Below.refl _ _) _)
 have HD3:Hid (w.drawn≤W3.drawn):=by rw [← hW3];exact Nat.le_add_right _ _
 clear hW3 HW2
 obtain ⟨hB3,hA3,hA3'⟩:=hb3
 have q0:=hA3 0 _ rfl
 have q1:=hA3 1 _ rfl
 have q2:=hA3 2 _ rfl
 have q3:=hA3 3 _ rfl
 have q4:=hA3 4 _ rfl
 have q5:=hA3 5 _ rfl
 have r1:=hA3' 1 _ rfl
 have r2:=hA3' 2 _ rfl
 have r3:=hA3' 3 _ rfl
 have r4:=hA3' 4 _ rfl
 have r5:=hA3' 5 _ rfl
 clear hA3 hA3'
 have hBs:=hB3.size
 by_cases c0:cr=0
 ·have c0':(cr != 0)=false:=by simp [c0]
  have HO1:=hidE (HO.out.trans (if_pos c0))
  clear HO c0
  by_cases k5:k=5
  ·have e5:=eq_bool k5
   have HO2:=hidE (HO1.out.trans (if_pos k5))
   clear HO1 k5
   go_wp2_with fail
   refine (against_texts B ka ka' kc kc' ks ks' W3 (hk.below (hB3.mono hB)) (hk'.below (hB3.mono hB)) hs2 hs3 gs2 gs3).mono ?_
   rintro e w4 ⟨rfl,q,rfl⟩
   generalize hag:agS ks ks'=ag at *
   have HAG:=hidE hag
   clear hag
   by_cases a0:ag=0
   ·have a0':(ag != 0)=false:=by simp [a0]
    have HO3:=hidE (HO2.out.trans (if_pos a0))
    clear HO2 a0
    have hb4:Below w.heap.size w (W3.drewN q):=below_drewN hB3 _
    go_wp2_with fail
    refine (HAV.out B la la' lc lc' ts' (W3.drewN q) (Nat.le_trans hB hBs) (ht0.below (hb4.mono hB)) (ht0'.below (hb4.mono hB)) hs4 hs5 gs4 gs5).mono ?_
    rintro e w5 ⟨rfl,hb5,hd5⟩
    have hfin:=below_on hb4 hb5
    have HF:Hid (w.drawn≤w5.drawn):=Nat.le_trans HD3.out (Nat.le_trans (Nat.le_add_right _ _) hd5)
    clear hd5
    clear hb5 hb4 q0 q1 q2 q3 q4 q5 r1 r2 r3 r4 r5
    go_wp2_with fail
    go_ret
    exact ⟨by rw [HO3.out];rfl,hfin,HF.out⟩
   ·have a0':(ag != 0)=true:=by simp [a0]
    have HO3:=hidE (HO2.out.trans (if_neg a0))
    clear HO2 a0
    go_wp2_with fail
    go_ret
    exact ⟨by rw [HO3.out];rfl,below_drewN hB3 _,Nat.le_trans HD3.out (Nat.le_add_right _ _)⟩
  ·have e5:=ne_bool k5
   have HO2:=hidE (HO1.out.trans (if_neg k5))
   clear HO1 k5
   by_cases k4:k=4
   ·have e4:=eq_bool k4
    have HO3:=hidE (HO2.out.trans (if_pos k4))
    clear HO2 k4
    go_wp2_with fail
    refine (HAV.out B la la' lc lc' ts' W3 (Nat.le_trans hB hBs) (ht0.below (hB3.mono hB)) (ht0'.below (hB3.mono hB)) hs4 hs5 gs4 gs5).mono ?_
    rintro e w5 ⟨rfl,hb5,hd5⟩
    have hfin:=below_on hB3 hb5
    have HF:Hid (w.drawn≤w5.drawn):=Nat.le_trans HD3.out hd5
    clear hd5
    clear hb5 hB3 q0 q1 q2 q3 q4 q5 r1 r2 r3 r4 r5
    go_wp2_with fail
    go_ret
    exact ⟨by rw [HO3.out];rfl,hfin,HF.out⟩
   ·have e4:=ne_bool k4
    have HO3:=hidE (HO2.out.trans (if_neg k4))
    clear HO2 k4
    by_cases k3:k=3
    ·have e3:=eq_bool k3
     have HO4:=hidE (HO3.out.trans (if_pos k3))
     clear HO3 k3
     go_wp2_with fail
     refine (Tryz.strings_Compare _ _ _).mono ?_
     rintro e w5 ⟨rfl,rfl⟩
     go_wp2_with fail
     go_ret
     exact ⟨by rw [HO4.out];rfl,hB3,HD3.out⟩
    ·have e3:=ne_bool k3
     have HO4:=hidE (HO3.out.trans (if_neg k3))
     clear HO3 k3
     by_cases k1:k=1
     ·have e1:=eq_bool k1
      have HO5:=hidE (HO4.out.trans (if_pos k1))
      clear HO4 k1
      go_wp2_with fail
      go_quiet (first | (go_at_call 226;exact Calls.quiet_of_same (truth_any _ _)) | (go_at_call 225;exact Calls.quiet_of_same (cmp_truth _ _ _)))
      go_wp2_with fail
      go_ret
      exact ⟨by rw [HO5.out];rfl,below_drewN hB3 _,Nat.le_trans HD3.out (Nat.le_add_right _ _)⟩
     ·have e1:=ne_bool k1
      have HO5:=hidE (HO4.out.trans (if_neg k1))
      clear HO4 k1
      go_wp2_with fail
      refine (cmp_int64 _ _ _).mono ?_
      rintro e w5 ⟨rfl,rfl⟩
      go_wp2_with fail
      go_ret
      exact ⟨by rw [HO5.out];rfl,hB3,HD3.out⟩
 ·have c0':(cr != 0)=true:=by simp [c0]
  have HO1:=hidE (HO.out.trans (if_neg c0))
  clear HO c0
  go_wp2_with fail
  go_ret
  exact ⟨by rw [HO1.out];rfl,hB3,HD3.out⟩
theorem order_any (T:Tree) (B:Nat) (v v':Value) (T':Tree) (w:World) (hB:B≤w.heap.size) (h:Lies B w v T) (h':Lies B w v' T') :
  Calls Tryz.prog 186 #[v,v'] w fun e w'=>e=.returned (.int .i64 (ordT T T'))∧Below w.heap.size w w':=(order_anyD T B v v' T' w hB h h').mono fun _ _ ⟨h1,h2,_⟩=>⟨h1,h2⟩
end Go.Proofs.YteddjlbfbpecjaaGreatDoor

namespace Go.Proofs.YteddjlbfbpecjaaGreatDoor
open Go.RowKit Go.Shelf
set_option linter.unusedVariables false
set_option linter.unusedSimpArgs false
def Rec (w:World) (b:Nat) (cs:Array Value) (ty:TypeId):Prop:=w.heap[b]?=some (.cells cs ty (0,0))
section
variable {w w':World} {b:Nat} {cs:Array Value} {ty:TypeId}
theorem Rec.lt (h:Rec w b cs ty):b<w.heap.size:=(Array.getElem?_eq_some_iff.1 h).1
theorem Rec.cell (h:Rec w b cs ty) (i:Nat) {v:Value} (hi:cs[i]?=some v):w.cell? ⟨b,i,none⟩=some v:=by simp [World.cell?,show w.heap[b]?=_ from h,hi]
theorem Rec.z (h:Rec w b cs ty) (i:Nat):w.frozen? ⟨b,i,none⟩=false:=by simp [World.frozen?,show w.heap[b]?=_ from h]
theorem Rec.keep (h:Rec w b cs ty) (e:w'.heap[b]?=w.heap[b]?):Rec w' b cs ty:=e.trans h
theorem Rec.below {B:Nat} (h:Rec w b cs ty) (hf:Below B w w') (hB:b<B):Rec w' b cs ty:=h.keep (hf.block b hB)
theorem Rec.other {q c:Nat} {u:Value} (h:Rec w b cs ty) (hq:b≠q):Rec (w.setCell ⟨q,c,none⟩ u) b cs ty:=h.keep (Below.heap_setCell _ _ _ _ hq)
theorem Rec.alloc (h:Rec w b cs ty) (o:Obj):Rec (w.alloc o) b cs ty:=h.keep (Below.heap_alloc _ _ _ h.lt)
theorem Rec.set (h:Rec w b cs ty) (i:Nat) (v:Value):Rec (w.setCell ⟨b,i,none⟩ v) b (cs.setIfInBounds i v) ty:=by
 have hl:=h.lt
 have e:w.heap[b]=.cells cs ty (0,0):=by
  have:=show w.heap[b]?=_ from h
  rw [Array.getElem?_eq_getElem hl] at this;exact Option.some.inj this
 unfold Rec
 simp [World.setCell,hl,Array.getElem_modify,e]
theorem rec_new (w:World) (cs:Array Value) (ty:TypeId):Rec (w.alloc (.cells cs ty)) w.heap.size cs ty:=World.alloc_heap_new _ _
end
end Go.Proofs.YteddjlbfbpecjaaGreatDoor

