/- The texts of a list, gathered anew by a range over a function. The texts of a list in order, and what hands them out, each once. AddNode: a node is added to a graph that is there. -/
import Derived.Test.YteddjlbfbpecjaaGreatDoorJoin10
import Derived.Test.YteddjlbfbpecjaaGreatDoorJoin4
import Derived.Test.YteddjlbfbpecjaaGreatDoorJoin9
import Derived.Sort.OwnSorted
namespace Go.Proofs.YteddjlbfbpecjaaGreatDoor
open Go.RowKit Go.Shelf
set_option maxHeartbeats 2000000
set_option maxRecDepth 100000
set_option linter.unusedVariables false
set_option linter.unusedSimpArgs false
attribute [local go_sem] Oper.semAt_some
def TextsIn (n:Nat) (W:World) (a:Option Addr) (ks:List ByteArray):Prop:=∀ i x,ks[i]?=some x→∃ b off,a=some ⟨b,off,none⟩∧b<n∧W.cell? ⟨b,off+i,none⟩=some (.string x)
theorem TextsIn.below {n:Nat} {W W':World} {a:Option Addr} {ks:List ByteArray} (h:TextsIn n W a ks) (hb:Below n W W'):TextsIn n W' a ks:=fun i x hx=>by
 obtain ⟨b,off,e,hl,hc⟩:=h i x hx
 exact ⟨b,off,e,hl,(hb.cell (p:=⟨b,off+i,none⟩) hl).trans hc⟩
theorem TextsIn.mono {n m:Nat} {W:World} {a:Option Addr} {ks:List ByteArray} (h:TextsIn n W a ks) (hm:n≤m):TextsIn m W a ks:=fun i x hx=>by
 obtain ⟨b,off,e,hl,hc⟩:=h i x hx
 exact ⟨b,off,e,by omega,hc⟩
theorem take_prefix_snoc {α:Type} {ks:List α} {j:Nat} {x:α} (h:ks[j]?=some x):ks.take j++[x] <+: ks:=by
 have e:ks.take j++[x]=ks.take (j+1):=by
  rw [List.take_add_one,h];rfl
 rw [e];exact List.take_prefix _ _
theorem takeT_snoc {α:Type} {ks:List α} {j:Nat} {x:α} (h:ks[j]?=some x):ks.take j++[x]=ks.take (j+1):=by
 rw [List.take_add_one,h];rfl
theorem values1S_any {F:Fence} (hd:F.depth=none) (hro:F.round=none) (hfn:∀ f,F.fn f) {l n₀:Nat} (ks:List ByteArray) (hks:ks.length≤1000000000) (a:Option Addr) (cap Bs:Nat) (J:List ByteArray→World→Prop)
  (hY:∀ m pre x W,J pre W→pre++[x] <+: ks→YieldAt F m Tryz.prog l #[.string x] W fun e W'=>e=.returned (.bool true)∧J (pre++[x]) W'∧Below n₀ W W')
  (W:World) (hBs:W.cell? ⟨Bs,0,none⟩=some (.slice a ks.length cap)) (hcap:ks.length≤cap) (hat:TextsIn n₀ W a ks) (h0:J [] W) (m:Nat) :
  CallsIn F m Tryz.prog 176 #[.func (.yield l) #[] #[],.pointer (some ⟨Bs,0,none⟩)] W fun e W'=>(∃ v,e=.returned v)∧J ks W':=by
 have hdd:=depth_none hd
 have HT:=hidE hat
 have HY:=hidE hY
 obtain ⟨n,hn⟩:∃ n,ks.length=n:=⟨_,rfl⟩
 have HN:=hidE hn
 rw [hn] at hBs hcap hks
 clear hat hY hn
 refine callsIn_of_wp Tryz.func176 rfl (hfn _) ?_ hro
 simp only [Tryz.ntmps176,List.size_toArray,List.length_cons,List.length_nil,Nat.reduceAdd,Nat.reduceSub,Array.replicate_succ,Array.replicate_zero,List.push_toArray,List.append_toArray,List.nil_append,List.cons_append]
 gi_wp2_with fail
 gi_loopw [7] (fun i wr=>∃ j:Nat,j≤n∧i=.int .i64 j∧J (ks.take j) wr∧Below n₀ W wr) (fun i _=>n - (intOf i).toNat)
 case atStart=>exact ⟨0,Nat.zero_le _,rfl,by simpa using h0,Below.refl _ _⟩
 case round =>
  obtain ⟨j,hj,rfl,hJr,hbr⟩:=hrel
  by_cases hlt:j<n
  ·obtain ⟨x,hx⟩:∃ x,ks[j]?=some x:=⟨_,List.getElem?_eq_getElem (by have:=HN.out;omega)⟩
   obtain ⟨b,off,rfl,hbl,hc⟩:=HT.out j x hx
   have c0:=(hbr.cell (p:=⟨b,off+j,none⟩) hbl).trans hc
   obtain ⟨fn,tmps,assign,body,hy1,hR⟩:=HY.out (m - 1) (ks.take j) x wr hJr (take_prefix_snoc hx)
   have HX:=hidE hx
   have HBR:=hidE hbr
   clear hx hc hJr hbr hBs h0
   gi_wp2_with fail
   refine hR.mono ?_
   clear hR hy1
   rintro e W3 ⟨rfl,hJ3,hb3⟩
   rw [takeT_snoc HX.out] at hJ3
   have HB3:=hidE (HBR.out.trans hb3)
   have HJ3:=hidE hJ3
   clear hb3 hJ3 c0
   gi_wp2_with fail
   go_roundw
   case rel=>exact ⟨j+1,by omega,by go_num,HJ3.out,HB3.out⟩
   case measure=>simp [intOf];omega
  ·have hJe:J ks wr:=by rwa [List.take_of_length_le (by have:=HN.out;omega)] at hJr
   have HJ:=hidE hJe
   clear hJr hJe hBs h0
   gi_wp2_with fail
   go_end0
   exact ⟨⟨_,rfl⟩,HJ.out⟩
structure ApJ (w:World) (rec:Loop) (pre:List ByteArray) (W:World):Prop where
 room:w.heap.size+3≤W.heap.size
 loop:W.heap[w.heap.size+2]?=some (.loop rec)
 dfr:W.heap[w.heap.size+1]?=some (.deferred (some []))
 box:∃ v,Boxed W w.heap.size 44 v∧W.ownsRow (w.heap.size+3) 9 1 v pre.length (pre.map Value.string)
 below:Below w.heap.size w W
theorem row_slice {W:World} {base e size n:Nat} {v:Value} {xs:List Value} (h:W.ownsRow base e size v n xs):∃ ua uc,v=.slice ua n uc:=by
 obtain ⟨_,⟨h1,h2⟩ | ⟨g,cap,cur,h1,_⟩⟩:=h
 ·subst h2;exact ⟨none,0,h1⟩
 ·exact ⟨_,_,h1⟩
theorem row_keep {base e size n:Nat} {xs:List Value} {v:Value} {w w1:World} (hown:w.ownsRow base e size v n xs) (hb:∀ g,base≤g→g<w.heap.size→w1.heap[g]?=w.heap[g]?):w1.ownsRow base e size v n xs:=by
 obtain ⟨g1,⟨g2,g3⟩ | ⟨g,cap,cur,g2,g3,g4,g5⟩⟩:=hown
 ·exact ⟨g1,.inl ⟨g2,g3⟩⟩
 ·exact ⟨g1,.inr ⟨g,cap,cur,g2,g3,(hb g g3 (Array.getElem?_eq_some_iff.1 g4).1).trans g4,g5⟩⟩
theorem row_grown {base e size n:Nat} {v:Value} {xs:List Value} {w w':World} (hown:w.ownsRow base e size v n xs) (hB:base≤w.heap.size) (hg:w.grownBy w' v.ownBlock):Below base w w' :=
 (Below.refl base w).grown hg hB fun q h=>(hown.lt q h).1
theorem row_base {base base' e size n:Nat} {v:Value} {xs:List Value} {w:World} (hown:w.ownsRow base e size v n xs) (hb:base'≤base):w.ownsRow base' e size v n xs:=by
 obtain ⟨g1,⟨g2,g3⟩ | ⟨g,cap,cur,g2,g3,g4,g5⟩⟩:=hown
 ·exact ⟨g1,.inl ⟨g2,g3⟩⟩
 ·exact ⟨g1,.inr ⟨g,cap,cur,g2,by omega,g4,g5⟩⟩
theorem Tryz.info9  : (Tryz.prog.info? 9).map (fun i=>(i.zero,i.size,i.bytes))=some (some (.string ⟨#[]⟩),1,16):=by kernel_rfl
theorem appendSeqS_any (ks:List ByteArray) (hks:ks.length≤100000000) (a:Option Addr) (cap Bs:Nat) (w:World) (hBs:Boxed w Bs 44 (.slice a ks.length cap)) (hcap:ks.length≤cap) (hat:TextsIn w.heap.size w a ks) :
  Calls Tryz.prog 217 #[.slice none 0 0,.func (.func 176) #[] #[.pointer (some ⟨Bs,0,none⟩)]] w fun e w'=>∃ v,e=.returned v∧w'.ownsRow w.heap.size 9 1 v ks.length (ks.map Value.string)∧Below w.heap.size w w':=by
 refine (callsIn_wide (n:=0)).1 ?_
 obtain ⟨F,hF⟩:∃ F,F=Fence.wide:=⟨_,rfl⟩
 rw [← hF]
 have hd:F.depth=none:=by rw [hF];rfl
 have hro:F.round=none:=by rw [hF];rfl
 have hfn:∀ f,F.fn f:=by rw [hF];exact fun _=>trivial
 clear hF
 have HT:=hidE hat
 have HBS:=hidE hBs
 have hBl:=hBs.lt
 clear hat hBs
 refine callsIn_of_wp_marks Tryz.func217 rfl (hfn _) ?_ hro
 simp only [Tryz.ntmps217,List.size_toArray,List.length_cons,List.length_nil,Nat.reduceAdd,Nat.reduceSub,Array.replicate_succ,Array.replicate_zero,List.push_toArray,List.append_toArray,List.nil_append,List.cons_append]
 gi_wp2_with fail
 refine range_wp hro hd (gf:=176) (lb:=#[.pointer (some ⟨Bs,0,none⟩)]) rfl (hfn _) (enters_of Tryz.func176 (by kernel_rfl) rfl) ?_
 intro fn hfn0
 generalize hrec:Loop.mk _ _ _ _ _ _ _ _=rec
 simp only [World.size_alloc]
 generalize hW0:World.alloc _ (Obj.loop rec)=W0
 have hsz:W0.heap.size=w.heap.size+3:=by rw [← hW0];simp
 have b0:W0.heap[w.heap.size]?=some (.cells #[.slice none 0 0] 44 (0,0)):=by rw [← hW0];simp only [heap_alloc_at,World.size_alloc];repeat (first | rw [if_pos trivial] | rw [if_pos (by omega)] | rw [if_neg (by omega)])
 have b1:W0.heap[w.heap.size+1]?=some (.deferred (some [])):=by rw [← hW0];simp only [heap_alloc_at,World.size_alloc];repeat (first | rw [if_pos trivial] | rw [if_pos (by omega)] | rw [if_neg (by omega)])
 have b2:W0.heap[w.heap.size+2]?=some (.loop rec):=by rw [← hW0];simp only [heap_alloc_at,World.size_alloc];repeat (first | rw [if_pos trivial] | rw [if_pos (by omega)] | rw [if_neg (by omega)])
 have hbl:Below w.heap.size w W0:=by
  rw [← hW0]
  exact (((Below.refl _ _).alloc (Nat.le_refl _) _).alloc (by simp) _).alloc (by simp;omega) _
 have HJ0:Hid (ApJ w rec [] W0):=⟨by omega,b2,b1,⟨_,b0,World.ownsRow_nil _ _ _ _⟩,hbl⟩
 have hBx:Boxed W0 Bs 44 (.slice a ks.length cap):=(hbl.block Bs hBl).trans HBS.out
 have HBX0:=hidE hBx
 have HT0:=hidE (HT.out.below hbl)
 clear hW0 b0 b1 b2 hbl hBx HT HBS
 have HYI:Hid (∀ m pre x W,ApJ w rec pre W→pre++[x] <+: ks→YieldAt F m Tryz.prog (w.heap.size+2) #[.string x] W fun e W'=>e=.returned (.bool true)∧ApJ w rec (pre++[x]) W'∧Below w.heap.size W W'):=by
  intro m pre x W hJ hpre
  have hpl:pre.length+1≤ks.length:=by have:=hpre.length_le;simpa using this
  have HJ:=hidE hJ
  have ea:=congrArg Loop.assign hrec
  have eb:=congrArg Loop.body hrec
  have et:=congrArg Loop.tmps hrec
  have ep:=congrArg Loop.params hrec
  have es:=congrArg Loop.state hrec
  have hr0:asReady rec=rec:=by rw [← hrec];rfl
  dsimp only at ea eb et ep es
  clear hrec
  refine yield_round (hfn _) ea eb et ep hJ.loop es.symm (by rw [← ep];rfl) ?_
  clear ea eb et ep es hJ
  obtain ⟨i0,hi,hz0,hz1,hz2⟩:=info_parts Tryz.info9
  obtain ⟨v,hbx,hrow⟩:=HJ.out.box
  obtain ⟨ua,uc,rfl⟩:=row_slice hrow
  have hrm:=HJ.out.room
  have HBX:=hidE hbx
  have HROW:=hidE hrow
  clear hbx hrow
  gi_wp2_with fail
  refine ⟨HJ.out.loop,?_⟩
  generalize hW2:World.putObj _ _ _=W2
  have a2:W2.heap[w.heap.size+2]?=some (.loop (asBusy rec)):=by rw [← hW2];exact World.putObj_heap_same (by omega)
  have ak:∀ i,i≠w.heap.size+2→W2.heap[i]?=W.heap[i]?:=fun i hi=>by rw [← hW2];exact World.putObj_heap_other hi
  have hs2:w.heap.size+3≤W2.heap.size:=by rw [← hW2];simp;omega
  have hb2:Below w.heap.size W W2:=by rw [← hW2];exact (But.putObj _ _).below (Below.refl _ _) (by omega)
  clear hW2
  have hbx2:Boxed W2 w.heap.size 44 (.slice ua pre.length uc):=(ak _ (by omega)).trans HBX.out
  have HROW2:Hid (W2.ownsRow (w.heap.size+3) 9 1 (.slice ua pre.length uc) pre.length (pre.map Value.string)):=row_keep HROW.out fun g hg _=>ak g (by omega)
  have cb:=hbx2.cell
  have HBX2:=hidE hbx2
  have HA2:=hidE a2
  have HAK:=hidE ak
  have HB2:=hidE hb2
  clear hbx2 a2 ak hb2 HROW HBX
  gi_wp2_with (gi_at_builtin;refine wpListIn_append_own _ rfl _ _ 44 rfl (w.heap.size+3) 9 i0 (.string ⟨#[]⟩) 1 16 Tryz.underlying44 hi hz0 hz1 hz2 rfl (by decide) _ _ _ rfl (row_keep HROW2.out fun g _ hg=>Below.heap_alloc _ _ _ hg) ⟨W2.heap.size,0,none⟩ 1 1 [.string x] rfl rfl ?d1 ?d2 ?d3 ?d4 ?d5 ?_)
  case d1 =>
   intro j u hj
   have hadd:(⟨W2.heap.size,0,none⟩:Addr).add j=⟨W2.heap.size,j,none⟩:=by unfold Addr.add;split<;>simp_all
   rw [hadd]
   refine cell_new _ _ _ _ _ ?_
   simpa using hj
  case d2=>intro u hu;simp only [List.mem_cons,List.not_mem_nil,or_false] at hu;subst hu;rfl
  case d3=>unfold maxLen;omega
  case d4=>omega
  case d5=>first | omega | (simp;omega)
  intro v3 w3 hown3 hgrow3 _
  obtain ⟨ub,ud,rfl⟩:=row_slice hown3
  have hb3:Below (w.heap.size+3) W2 w3:=((Below.refl _ W2).alloc (by omega) _).trans (row_grown (row_keep HROW2.out fun g _ hg=>Below.heap_alloc _ _ _ hg) (by simp;omega) hgrow3)
  have hbx3:Boxed w3 w.heap.size 44 (.slice ua pre.length uc):=(hb3.block _ (by omega)).trans HBX2.out
  have HBX3:=hidE hbx3
  have HO3:=hidE hown3
  have HB3:=hidE hb3
  have hs3:=hb3.size
  have cb3:=hbx3.cell
  have fb3:=hbx3.frozen
  clear hown3 hgrow3 hb3 cb hbx3
  gi_wp2_with fail
  have hsl:(w3.setCell ⟨w.heap.size,0,none⟩ (.slice ub (pre.length+1) ud)).heap[w.heap.size+2]?=some (.loop (asBusy rec)):=(Below.heap_setCell _ _ _ _ (by show w.heap.size+2≠w.heap.size;omega)).trans ((HB3.out.block _ (by omega)).trans HA2.out)
  refine ⟨hsl,rfl,⟨?_,?_,?_,⟨.slice ub (pre.length+1) ud,?_,?_⟩,?_⟩,?_⟩
  ·simp [World.setCell];omega
  ·rw [hr0];exact World.putObj_heap_same (by simp [World.setCell];omega)
  ·rw [World.putObj_heap_other (by omega)]
   exact (Below.heap_setCell _ _ _ _ (by show w.heap.size+1≠w.heap.size;omega)).trans ((HB3.out.block _ (by omega)).trans ((HAK.out _ (by omega)).trans HJ.out.dfr))
  ·show _=_
   rw [World.putObj_heap_other (by omega)]
   exact HBX3.out.set _
  ·have e:(pre++[x]).map Value.string=pre.map Value.string++[Value.string x]:=by simp
   rw [e,List.length_append]
   exact row_keep HO3.out fun g hg _=>by
    rw [World.putObj_heap_other (by omega)]
    exact Below.heap_setCell _ _ _ _ (by show g≠w.heap.size;omega)
  ·exact (But.putObj _ _).below ((HJ.out.below.trans (HB2.out.trans (HB3.out.mono (by omega)))).setCell (by show w.heap.size≤w.heap.size;omega) _) (by omega)
  ·exact (But.putObj _ _).below ((HB2.out.trans (HB3.out.mono (by omega))).setCell (by show w.heap.size≤w.heap.size;omega) _) (by omega)
 have HV:=hidE (values1S_any hd hro hfn (l:=w.heap.size+2) (n₀:=w.heap.size) ks (by omega) a cap Bs (ApJ w rec) HYI.out W0 HBX0.out.cell hcap HT0.out HJ0.out (0 - 1))
 clear HYI HJ0 HBX0 HT0
 refine HV.out.mono ?_
 rintro e W ⟨⟨v,rfl⟩,hJ⟩
 have hp:rec.pending=none:=by rw [← hrec]
 have hst:rec.state≠.busy:=by rw [← hrec];simp
 have HJ:=hidE hJ
 clear hrec hJ HV
 refine ⟨rec,HJ.out.loop,hst,?_⟩
 simp only [hp]
 generalize hW5:World.putObj _ _ _=W5
 have hrm:=HJ.out.room
 have HK5:Hid (∀ i,i≠w.heap.size+2→W5.heap[i]?=W.heap[i]?):=fun i hi=>by rw [← hW5];exact World.putObj_heap_other hi
 have HB5:Hid (Below w.heap.size w W5):=by rw [← hW5];exact (But.putObj _ _).below HJ.out.below (by omega)
 have hs5:W5.heap.size=W.heap.size:=by rw [← hW5];simp
 clear hW5
 obtain ⟨v5,hbx,hrow⟩:=HJ.out.box
 have cb:=(show Boxed W5 w.heap.size 44 v5 from (HK5.out _ (by omega)).trans hbx).cell
 have HD5:Hid (W5.heap[w.heap.size+1]?=some (.deferred (some []))):=(HK5.out _ (by omega)).trans HJ.out.dfr
 have HR5:Hid (W5.ownsRow (w.heap.size+3) 9 1 v5 ks.length (ks.map Value.string)):=row_keep hrow fun g hg _=>HK5.out g (by omega)
 clear hbx hrow
 gi_wp2_with fail
 have hz3:Below w.heap.size w (W5.putObj (w.heap.size+1) (.deferred none)):=(But.putObj _ _).below HB5.out (by omega)
 show LeavesInM _ _ _ _ _ _ [_] .returning _
 refine ⟨by simp,.inl ⟨_,_,rfl,run_takeDeferred HD5.out,?_⟩⟩
 refine ⟨v5,?_,v5,rfl,?_,hz3⟩
 ·simp [results,Tryz.results217,go_sem]
 ·exact row_base (row_keep HR5.out fun g hg _=>World.putObj_heap_other (by omega)) (by omega)
theorem collectS_any (ks:List ByteArray) (hks:ks.length≤100000000) (a:Option Addr) (cap Bs:Nat) (w:World) (hBs:Boxed w Bs 44 (.slice a ks.length cap)) (hcap:ks.length≤cap) (hat:TextsIn w.heap.size w a ks) :
  Calls Tryz.prog 174 #[.func (.func 176) #[] #[.pointer (some ⟨Bs,0,none⟩)]] w fun e w'=>∃ v,e=.returned v∧w'.ownsRow w.heap.size 9 1 v ks.length (ks.map Value.string)∧Below w.heap.size w w':=by
 have HC:=hidE (appendSeqS_any ks hks a cap Bs w hBs hcap hat)
 clear hBs hcap hat
 go_enter Tryz.func174,Tryz.ntmps174
 go_wp2_with fail
 refine HC.out.mono ?_
 rintro e w2 ⟨v,rfl,ho,hb⟩
 have HO:=hidE ho
 have HB:=hidE hb
 clear ho hb
 go_wp2_with fail
 go_ret
 exact ⟨v,rfl,HO.out,HB.out⟩
end Go.Proofs.YteddjlbfbpecjaaGreatDoor

namespace Go.Proofs.YteddjlbfbpecjaaGreatDoor
open Go.RowKit Go.Shelf Go.Sort
set_option maxHeartbeats 2000000
set_option maxRecDepth 100000
set_option linter.unusedVariables false
set_option linter.unusedSimpArgs false
attribute [local go_sem] Oper.semAt_some
def sortL (ks:List ByteArray):List (List UInt8):=(ks.map fun b=>b.data.toList).mergeSort fun x y=>decide (x≤y)
def sortB (ks:List ByteArray):List ByteArray:=(sortL ks).map fun l=>⟨l.toArray⟩
theorem sortL_len (ks:List ByteArray):(sortL ks).length=ks.length:=by simp [sortL]
theorem sortB_len (ks:List ByteArray):(sortB ks).length=ks.length:=by simp [sortB,sortL_len]
theorem strs_enc (ks:List ByteArray):ks.map Value.string=(ks.map fun b=>b.data.toList).map encStr:=by simp [encStr,Function.comp_def]
theorem sortB_enc (ks:List ByteArray):(sortL ks).map encStr=(sortB ks).map Value.string:=by simp [sortB,encStr,Function.comp_def]
theorem sortedS_any (ks:List ByteArray) (hks:ks.length≤100000000) (a:Option Addr) (cap Bs:Nat) (w:World) (hBs:Boxed w Bs 44 (.slice a ks.length cap)) (hcap:ks.length≤cap) (hat:TextsIn w.heap.size w a ks) :
  Calls Tryz.prog 136 #[.func (.func 176) #[] #[.pointer (some ⟨Bs,0,none⟩)]] w fun e w'=>∃ v,e=.returned v∧w'.ownsRow w.heap.size 9 1 v ks.length ((sortB ks).map Value.string)∧RowKit.Below w.heap.size w w':=by
 have HC:=hidE (collectS_any ks hks a cap Bs w hBs hcap hat)
 clear hBs hcap hat
 go_enter Tryz.func136,Tryz.ntmps136
 go_wp2_with fail
 refine HC.out.mono ?_
 rintro e w2 ⟨v,rfl,ho,hb⟩
 have HO:=hidE ho
 have HB:=hidE hb
 clear HC hb
 rcases ho.2 with ⟨rfl,hz⟩ | ⟨gb,gc,cur,rfl,hbase,hgb,r1,r2,r3,r4⟩
 ·have e0:ks=[]:=List.eq_nil_of_length_eq_zero hz
  have HS:=hidE (Tryz.slices_Sort_string_none none 0 w2)
  clear ho hz
  go_wp2_with fail
  refine HS.out.mono ?_
  rintro e w3 ⟨rfl,hw3⟩
  rw [hw3]
  clear hw3
  go_wp2_with fail
  go_ret
  refine ⟨_,rfl,?_,HB.out⟩
  subst e0
  simpa [sortB,sortL] using HO.out
 ·have hl:(ks.map fun b=>b.data.toList).length=ks.length:=by simp
  have hH:Holds encStr w2 gb 0 (ks.map fun b=>b.data.toList).toArray:=holds_of_block hgb (by rw [hl,← strs_enc];simpa using r4)
  have hgl:gb<w2.heap.size:=(Array.getElem?_eq_some_iff.1 hgb).1
  have hsz:(ks.map fun b=>b.data.toList).length<4611686018427387904:=by rw [hl];omega
  have HS:=hidE (Tryz.slices_Sort_string gb 0 gc (ks.map fun b=>b.data.toList) w2 hH hgl hsz)
  rw [hl] at HS
  have HBL:=hidE hgb
  have HR:=hidE (And.intro r1 (And.intro r2 r3))
  have HBS:=hidE hbase
  clear ho hgb r1 r2 r3 r4 hH hsz hl hbase
  go_wp2_with fail
  refine HS.out.mono ?_
  rintro e w3 ⟨rfl,nn,os,hw3⟩
  have HO3:Hid (w3.ownsRow w.heap.size 9 1 (.slice (some ⟨gb,0,none⟩) ks.length gc) ks.length ((sortL ks).map encStr)):=by
   show World.ownsRow _ _ _ _ _ _ _
   rw [hw3]
   have h:=ownsRow_sorted (w:=w2) (base:=w.heap.size) (g:=gb) (cap:=gc) (n:=nn) (e:=9) (os:=os) (cur:=cur) (ss:=ks.map fun b=>b.data.toList) (ts:=sortL ks) (by simp [sortL]) HBS.out HBL.out (by simpa using HR.out.1) HR.out.2.1 HR.out.2.2
   simp only [List.length_map] at h
   exact h
  have HB3:Hid (RowKit.Below w.heap.size w w3):=by
   rw [hw3]
   exact HB.out.grown (grownBy_sorted _) HB.out.size (fun j hj=>by cases hj;exact HBS.out)
  clear hw3 HBL HR HO HB HS
  go_wp2_with fail
  go_ret
  refine ⟨_,rfl,?_,HB3.out⟩
  rw [← sortB_enc]
  exact HO3.out
theorem eachOnce_any (ks:List ByteArray) (hks:ks.length≤100000000) (a:Option Addr) (cap:Nat) (w:World) (hcap:ks.length≤cap) (hat:TextsIn w.heap.size w a ks) :
  Calls Tryz.prog 89 #[.slice a ks.length cap] w fun e w'=>∃ g,e=.returned (.func (.func 138) #[] #[.pointer (some ⟨g,0,none⟩)])∧w.heap.size≤g∧Rest w' w.heap.size g w' (sortB ks)∧g+1=w'.heap.size∧RowKit.Below w.heap.size w w':=by
 have HV:=hidE (valuesS_any a ks.length cap w)
 have hB0:RowKit.Below w.heap.size w (w.alloc (.cells #[.slice a ks.length cap] 44)):=(RowKit.Below.refl _ _).alloc (Nat.le_refl _) _
 have HS:=hidE (sortedS_any ks hks a cap w.heap.size (w.alloc (.cells #[.slice a ks.length cap] 44)) (World.alloc_heap_new _ _) hcap ((hat.below hB0).mono hB0.size))
 have HB0:=hidE hB0
 have hsl:=sortB_len ks
 obtain ⟨n,hn⟩:∃ n,ks.length=n:=⟨_,rfl⟩
 rw [hn] at HV HS hsl HB0 ⊢
 have HN:=hidE hn
 have HSL:=hidE hsl
 clear hat hB0 hn hsl hks hcap
 go_enter Tryz.func89,Tryz.ntmps89
 go_wp2_with fail
 refine HV.out.mono ?_
 rintro e w1 ⟨rfl,hw1⟩
 have HS1:Hid (Calls Tryz.prog 136 #[.func (.func 176) #[] #[.pointer (some ⟨w.heap.size,0,none⟩)]] w1 fun e w'=>∃ v,e=.returned v∧w'.ownsRow w1.heap.size 9 1 v n ((sortB ks).map Value.string)∧RowKit.Below w1.heap.size w1 w'):=by rw [hw1];exact HS.out
 have HB1:Hid (RowKit.Below w.heap.size w w1):=by rw [hw1];exact HB0.out
 clear hw1 HS HB0 HV
 go_wp2_with fail
 refine HS1.out.mono ?_
 rintro e w2 ⟨v,rfl,ho,hb2⟩
 have HB2:=hidE (below_on HB1.out hb2)
 obtain ⟨ua,uc,rfl⟩:=row_slice ho
 have HO2:=hidE ho
 clear ho hb2 HS1
 go_upto_region 2 with fail
 obtain ⟨W3,hW3⟩:∃ W3,w2.alloc (.cells #[.slice ua n uc] 44)=W3:=⟨_,rfl⟩
 rw [hW3]
 have HB3:Hid (RowKit.Below w2.heap.size w2 W3):=by rw [← hW3];exact (RowKit.Below.refl _ _).alloc (Nat.le_refl _) _
 have HR3:Hid (Rec W3 w2.heap.size #[.slice ua n uc] 44):=by rw [← hW3];exact rec_new w2 #[.slice ua n uc] 44
 have hz3:w2.heap.size+1=W3.heap.size:=by rw [← hW3];simp
 have HZ3:=hidE hz3
 clear hW3 hz3
 go_wp2_with fail
 go_ret
 refine ⟨_,rfl,HB2.out.size,⟨?_,rfl,fun _ _=>rfl,RowKit.Below.refl _ _⟩,HZ3.out,below_on HB2.out HB3.out⟩
 rcases HO2.out.2 with ⟨h1,h2⟩ | ⟨gb,gc,cur,h1,hbase,hgb,r1,r2,r3,r4⟩
 ·have e0:sortB ks=[]:=List.eq_nil_of_length_eq_zero (by rw [HSL.out];exact h2)
  injection h1 with e1 e2 e3
  rw [e0]
  subst e2
  exact ⟨ua,uc,HR3.out,.inl rfl,Nat.zero_le _,by rw [e3];decide⟩
 ·have h1':=h1
  injection h1 with e1 e2 e3
  subst e1 e3
  rw [HSL.out]
  have hgl:gb<w2.heap.size:=(Array.getElem?_eq_some_iff.1 hgb).1
  refine ⟨_,uc,HR3.out,.inr ⟨gb,0,rfl,⟨Nat.le_trans HB1.out.size hbase,hgl⟩,fun i x hx=>?_⟩,r1,by unfold maxLen at r2;omega⟩
  have hc:=HO2.out.cells (g:=gb) rfl i (.string x) (by rw [List.getElem?_map,hx];rfl)
  have hadd:(⟨gb,0,none⟩:Addr).add i=⟨gb,i,none⟩:=by unfold Addr.add;split<;>simp_all
  rw [hadd] at hc
  rw [Nat.zero_add]
  exact (HB3.out.cell (p:=⟨gb,i,none⟩) hgl).trans hc
end Go.Proofs.YteddjlbfbpecjaaGreatDoor

namespace Go.Proofs.YteddjlbfbpecjaaGreatDoor
open Go.RowKit Go.Shelf
set_option linter.unusedVariables false
set_option linter.unusedSimpArgs false
attribute [local go_sem] Oper.semAt_some
def onceN  : Nat→List ByteArray→List ByteArray
 | 0,_=>[]
 | _+1,[]=>[]
 | n+1,x::r=>x::onceN n (afterB x r)
def onceB (ks:List ByteArray):List ByteArray:=onceN ks.length ks
theorem after_len (x:ByteArray) (r:List ByteArray):(afterB x r).length≤r.length:=(List.dropWhile_sublist _).length_le
theorem onceN_any  : ∀ (n m:Nat) (ks:List ByteArray),ks.length≤n→ks.length≤m→onceN n ks=onceN m ks
 | n,m,[],_,_=>by cases n<;>cases m<;>rfl
 | n+1,m+1,x::r,h1,h2=>by
  have:=after_len x r
  simp only [List.length_cons] at h1 h2
  simp only [onceN,onceN_any n m (afterB x r) (by omega) (by omega)]
theorem onceB_cons (x:ByteArray) (r:List ByteArray):onceB (x::r)=x::onceB (afterB x r):=by
 have:=after_len x r
 unfold onceB
 simp only [List.length_cons,onceN]
 rw [onceN_any r.length (afterB x r).length (afterB x r) this (Nat.le_refl _)]
theorem onceB_len (ks:List ByteArray):(onceB ks).length≤ks.length:=by
 have:∀ n ks,(onceN n ks).length≤n:=by
  intro n
  induction n with
  | zero=>intro ks;simp [onceN]
  | succ n ih =>
   intro ks
   cases ks with
   | nil=>simp [onceN]
   | cons x r=>simp only [onceN,List.length_cons];have:=ih (afterB x r);omega
 exact this _ _
def LeftAt (W:World) (lo g:Nat) (ks:List ByteArray):Prop:=∃ a c,Rec W g #[.slice a ks.length c] 44∧TextsAt W lo g a ks∧ks.length≤c∧c≤9223372036854775807
theorem LeftAt.rest {W:World} {lo g:Nat} {ks:List ByteArray} (h:LeftAt W lo g ks):Rest W lo g W ks:=⟨h,rfl,fun _ _=>rfl,Below.refl _ _⟩
theorem LeftAt.keep {W W':World} {lo g:Nat} {ks:List ByteArray} (h:LeftAt W lo g ks) (hk:∀ i,lo≤i→i≤g→W'.heap[i]?=W.heap[i]?) (hl:lo≤g):LeftAt W' lo g ks:=by
 obtain ⟨a,c,h1,h2,h3⟩:=h
 refine ⟨a,c,h1.keep (hk g hl (Nat.le_refl _)),h2.imp id fun ⟨b,off,e,hb,hc⟩=>⟨b,off,e,hb,fun i x hx=>(World.cell?_of_block (hk b hb.1 (Nat.le_of_lt hb.2))).trans (hc i x hx)⟩,h3⟩
structure AnJ (w:World) (p:GP) (nn nr:Int) (N R F T:List (Int × Value)) (X lo g:Nat) (pa:Option Addr) (pn pc:Nat) (done rest:List ByteArray) (W:World):Prop where
 gs:GS W p nn nr N R F T
 node:∃ la lc,Rec W X #[.int .i64 nn,.slice la done.length lc,.slice pa pn pc] 47∧W.ownsRow (g+1) 9 1 (.slice la done.length lc) done.length (done.map Value.string)∧(done=[]→la=none∧lc=0)
 left:LeftAt W lo g rest
 below:Below w.heap.size w W
 room:g<W.heap.size
 old:p.g<w.heap.size∧p.n<w.heap.size∧p.r<w.heap.size∧p.f<w.heap.size∧p.t<w.heap.size
def NextTo (lo g:Nat) (ks:List ByteArray) (W:World) (v:ByteArray) (b:Bool) (w':World):Prop:=(ks=[]∧b=false∧w'=W)∨∃ x r,ks=x::r∧v=x∧b=true∧Rest W lo g w' (afterB x r)
theorem next_any {W:World} {lo g:Nat} {ks:List ByteArray} (h:LeftAt W lo g ks):Calls Tryz.prog 138 #[.pointer (some ⟨g,0,none⟩)] W fun e w'=>∃ v b,e=.returned (.tuple #[.string v,.bool b])∧NextTo lo g ks W v b w':=by
 cases ks with
 | nil =>
  obtain ⟨a,c,hr,_⟩:=h
  exact (next_none g a c W hr).mono fun e w' ⟨h1,h2⟩=>⟨_,_,h1,.inl ⟨rfl,rfl,h2⟩⟩
 | cons x r=>exact (next_some lo g x r W h.rest).mono fun e w' ⟨h1,h2⟩=>⟨_,_,h1,.inr ⟨x,r,rfl,rfl,rfl,h2⟩⟩
def moreN  : Value→Nat
 | .bool true=>1
 | _=>0
def AnI (w:World) (p:GP) (nn nr:Int) (N R F T:List (Int × Value)) (X lo g:Nat) (pa:Option Addr) (pn pc:Nat) (S:List ByteArray) (l m:Value) (wr:World):Prop :=
 ∃ done rest,AnJ w p nn nr N R F T X lo g pa pn pc done rest wr∧((m=.bool false∧(∃ s,l=.string s)∧done=S)∨∃ x,l=.string x∧m=.bool true∧done++x::onceB rest=S)
theorem AnJ.next {w:World} {p:GP} {nn nr:Int} {N R F T:List (Int × Value)} {X lo g:Nat} {pa:Option Addr} {pn pc:Nat} {done rest:List ByteArray} {W w':World} {v:ByteArray} {b:Bool} {S:List ByteArray}
  (h:AnJ w p nn nr N R F T X lo g pa pn pc done rest W) (hn:NextTo lo g rest W v b w') (hS:done++onceB rest=S) (hX:X<lo) (hl:lo≤g) (hw:w.heap.size≤X):AnI w p nn nr N R F T X lo g pa pn pc S (.string v) (.bool b) w'∧(lenAt w' g+moreN (.bool b)=0∨lenAt w' g+moreN (.bool b)≤rest.length):=by
 rcases hn with ⟨rfl,rfl,rfl⟩ | ⟨x,r,rfl,rfl,rfl,hr⟩
 ·refine ⟨⟨done,[],h,.inl ⟨rfl,⟨v,rfl⟩,by simpa [onceB,onceN] using hS⟩⟩,.inl ?_⟩
  obtain ⟨a,c,h1,_⟩:=h.left
  rw [lenAt_of h1];rfl
 ·rw [onceB_cons] at hS
  refine ⟨⟨done,afterB v r,⟨?_,?_,hr.at_,?_,by rw [hr.size];exact h.room,h.old⟩,.inr ⟨v,rfl,rfl,hS⟩⟩,.inr ?_⟩
  ·exact ⟨h.gs.obj.keep (hr.other _ (by have:=h.old;omega)),h.gs.n.block (hr.other _ (by have:=h.old;omega)),h.gs.r.block (hr.other _ (by have:=h.old;omega)),h.gs.f.block (hr.other _ (by have:=h.old;omega)),h.gs.t.block (hr.other _ (by have:=h.old;omega))⟩
  ·obtain ⟨la,lc,h1,h2,h3⟩:=h.node
   exact ⟨la,lc,h1.keep (hr.other _ (by omega)),row_keep h2 fun i hi _=>hr.other i (by omega),h3⟩
  ·exact h.below.trans (hr.below.mono (by omega))
  ·obtain ⟨a,c,h1,_⟩:=hr.at_
   rw [lenAt_of h1]
   have:=after_len v r
   simp only [moreN,List.length_cons]
   omega
set_option maxRecDepth 100000 in
set_option maxHeartbeats 8000000 in
theorem addNode_ok {w:World} {p:GP} {nn nr:Int} {N R F T:List (Int × Value)} (h:GS w p nn nr N R F T) (B:Nat) (hok:p.Ok B) (hB:B≤w.heap.size)
  (ks:List ByteArray) (a:Option Addr) (cap:Nat) (pv:Value) (K:World→Value→Prop) (hpv:∃ a n c,pv=.slice a n c)
  (hks:ks.length≤2000000) (hcap:ks.length≤cap) (hcap2:cap≤9223372036854775807) (hat:TextsIn w.heap.size w a ks)
  (ha:Calls Tryz.prog 85 #[.slice a ks.length cap] w fun e w'=>e=.returned (.bool true)∧Below w.heap.size w w')
  (hs:∀ W,Below w.heap.size w W→Calls Tryz.prog 86 #[pv] W fun e w'=>e=.returned (.bool true)∧Below W.heap.size W w')
  (hk:∀ W,Below w.heap.size w W→Calls Tryz.prog 88 #[pv] W fun e w'=>∃ a n c,e=.returned (.slice a n c)∧K w' (.slice a n c)∧Below W.heap.size W w')
  (hnn:I64 nn) (hnn1:nn<4611686018427387904) (hnn0:0≤nn) (hnew:∀ q ∈ N,q.1≠nn) (hsz:N.length+R.length<65536) :
  Calls Tryz.prog 30 #[p.val,.slice a ks.length cap,pv] w fun e w'=>e=.returned (.tuple #[.int .i64 nn,.int .i64 0])∧∃ la ln lc pa pn pc,GS w' p (nn+1) nr (N++[(nn,.agg #[.int .i64 nn,.slice la ln lc,.slice pa pn pc])]) R F T∧Below B w w'∧w'.ownsRow w.heap.size 9 1 (.slice la ln lc) (onceB (sortB ks)).length ((onceB (sortB ks)).map Value.string)∧(onceB (sortB ks)=[]→la=none∧ln=0∧lc=0)∧∃ W,K W (.slice pa pn pc):=by
 obtain ⟨qa,qn,qc,rfl⟩:=hpv
 have hsl:(sortB ks).length≤2000000:=by rw [sortB_len];exact hks
 obtain ⟨S,hSS⟩:∃ S,onceB (sortB ks)=S:=⟨_,rfl⟩
 have hSl:S.length≤2000000:=by rw [← hSS];exact Nat.le_trans (onceB_len _) hsl
 rw [hSS]
 have HSS:=hidE hSS
 clear hSS hsl
 have HG:=hidE h
 have HK:=hidE hk
 have HS:=hidE hs
 have HA:=hidE ha
 have HT:=hidE hat
 have HTh:=hidE (there_yes h)
 have HOK:=hidE hok
 have HNEW:=hidE hnew
 clear h hk hs ha hat hok hnew
 unfold GP.val at HTh ⊢
 go_enter Tryz.func30,Tryz.ntmps30
 go_wp2_with fail
 refine HTh.out.mono ?_
 rintro e w1 ⟨rfl,hw1⟩
 rw [hw1]
 clear hw1 HTh
 go_wp2_with fail
 refine HA.out.mono ?_
 rintro e w2 ⟨rfl,hb2⟩
 have HB2:=hidE hb2
 clear hb2 HA
 go_wp2_with fail
 refine (HS.out w2 HB2.out).mono ?_
 rintro e w3 ⟨rfl,hb3⟩
 have HB3:=hidE (below_on HB2.out hb3)
 clear hb3 HS
 have HG3:=hidE (HG.out.below HB3.out)
 have HFu:=hidE (full_not HG3.out hsz nn hnn1)
 unfold GP.val at HFu
 have c2:=HG3.out.c2
 go_wp2_with fail
 refine HFu.out.mono ?_
 rintro e w4 ⟨rfl,hb4⟩
 have HB4:=hidE (below_on HB3.out hb4)
 have HG4:=hidE (HG.out.below HB4.out)
 clear hb4 c2 HFu HG3 HB3 HB2
 go_upto_region 7 with fail
 show (Code.region 7 RAN7 true).wp _ _ _ _
 refine regionAN7 p nn (.slice qa qn qc) w4.heap.size K _ _ _ rfl ⟨rfl,rfl⟩ ?_ ?_
 ·intro W hW
  exact ⟨(hW.cell (p:=⟨p.g,2,none⟩) HG4.out.obj.lt).trans HG4.out.c2,hW.size,HK.out W (below_on HB4.out hW)⟩
 rintro c W5 hS hB5 ⟨pa,pn,pc,e40,hkb⟩ ⟨X,e8,hX,hr5⟩
 have HKV:Hid (∃ W,K W (.slice pa pn pc)):=by obtain ⟨W,h1,_⟩:=hkb;exact ⟨W,h1⟩
 clear hkb
 obtain ⟨W6,hrun,hput⟩:=store47 c.eval X W5 _ _ _ nn pa pn pc hr5 e8 e40
 refine ⟨W6,hrun,?_⟩
 clear hrun
 rw [same_put hS [33,34,35,36,37,38,39,40,8] (by kernel_rfl)]
 obtain ⟨y33,q33⟩:∃ y,c.eval (.tmp 33)=y:=⟨_,rfl⟩
 obtain ⟨y34,q34⟩:∃ y,c.eval (.tmp 34)=y:=⟨_,rfl⟩
 obtain ⟨y35,q35⟩:∃ y,c.eval (.tmp 35)=y:=⟨_,rfl⟩
 obtain ⟨y36,q36⟩:∃ y,c.eval (.tmp 36)=y:=⟨_,rfl⟩
 obtain ⟨y37,q37⟩:∃ y,c.eval (.tmp 37)=y:=⟨_,rfl⟩
 obtain ⟨y38,q38⟩:∃ y,c.eval (.tmp 38)=y:=⟨_,rfl⟩
 obtain ⟨y39,q39⟩:∃ y,c.eval (.tmp 39)=y:=⟨_,rfl⟩
 obtain ⟨y40,q40⟩:∃ y,c.eval (.tmp 40)=y:=⟨_,rfl⟩
 obtain ⟨y8,q8⟩:∃ y,c.eval (.tmp 8)=y:=⟨_,rfl⟩
 simp only [List.foldl_cons,List.foldl_nil,q33,q34,q35,q36,q37,q38,q39,q40,q8]
 rw [e8] at q8
 rw [e40] at q40
 subst q8 q40
 clear e8 e40 hS
 have hX5:X<W5.heap.size:=hr5.lt
 have HB6:Hid (Below w.heap.size w W6):=(HB4.out.trans (hB5.mono HB4.out.size)).trans (hput.below.mono (Nat.le_trans HB4.out.size hX))
 have HG6:Hid (GS W6 p nn nr N R F T):=HG.out.below HB6.out
 have HR6:=hidE hput.r
 have hs6:X<W6.heap.size:=hput.r.lt
 have hX0:w.heap.size≤X:=Nat.le_trans HB4.out.size hX
 clear hput hr5 hB5 hX5 hX HB4 HG4 HK
 clear q33 q34 q35 q36 q37 q38 q39
 simp only [List.setIfInBounds_toArray,List.set_cons_succ,List.set_cons_zero]
 have HE:=hidE (eachOnce_any ks (by omega) a cap W6 hcap ((HT.out.below HB6.out).mono HB6.out.size))
 go_wp2_with fail
 refine HE.out.mono ?_
 rintro e w7 ⟨g,rfl,hg7,hl7,hz7,hb7⟩
 have HJ7:Hid (AnJ w p nn nr N R F T X W6.heap.size g pa pn pc [] (sortB ks) w7) :=
  ⟨HG6.out.below hb7,⟨none,0,HR6.out.below hb7 hs6,World.ownsRow_nil _ _ _ _,fun _=>⟨rfl,rfl⟩⟩,hl7.at_,HB6.out.trans (hb7.mono HB6.out.size),by omega,HG.out.obj.lt,HG.out.n.lt,HG.out.r.lt,HG.out.f.lt,HG.out.t.lt⟩
 have hlo:X<W6.heap.size:=hs6
 obtain ⟨lo,hlo'⟩:∃ lo,W6.heap.size=lo:=⟨_,rfl⟩
 rw [hlo'] at HJ7 hlo hg7
 clear hl7 hz7 hb7 HE HG6 HR6 hs6 hlo' HB6 HT
 have HN7:=hidE (next_any HJ7.out.left)
 go_wp2_with fail
 refine HN7.out.mono ?_
 rintro e w8 ⟨v8,b8,rfl,hn8⟩
 have HI8:=hidE (HJ7.out.next (S:=S) hn8 (by rw [List.nil_append];exact HSS.out) hlo hg7 hX0).1
 clear hn8 HN7 HJ7 HSS
 go_wp2_with fail
 go_loopw [10,11] (fun l m wr=>AnI w p nn nr N R F T X lo g pa pn pc S l m wr) (fun _ m wr=>lenAt wr g+moreN m)
 case atStart=>exact HI8.out
 case round =>
  obtain ⟨done,rest,hJ,⟨rfl,⟨s,rfl⟩,hdone⟩ | ⟨x,rfl,rfl,hd⟩⟩:=hrel
  ·have HJ:=hidE hJ
   have HD:=hidE hdone
   obtain ⟨la,lc,hn1,hn2,hn3⟩:=hJ.node
   have HN3':=hidE hn3
   clear hn3
   have HN1:=hidE hn1
   have HN2:=hidE hn2
   clear hJ hdone hn1 hn2 HI8
   obtain ⟨ln,hln⟩:∃ ln,done.length=ln:=⟨_,rfl⟩
   rw [hln] at HN1 HN2
   have HLN:=hidE hln
   clear hln
   go_upto_region 13 with fail
   show (Code.region 13 RAN13 true).wp _ _ _ _
   refine regionAN13 p nn X la pa ln lc pn pc _ _ _ rfl ⟨rfl,rfl⟩ ?_ ?_
   ·intro W hW
    exact ⟨(hW.cell (p:=⟨p.g,0,none⟩) HJ.out.gs.obj.lt).trans HJ.out.gs.c0,(hW.cell (p:=⟨X,0,none⟩) HN1.out.lt).trans (HN1.out.cell 0 rfl),(hW.cell (p:=⟨X,1,none⟩) HN1.out.lt).trans (HN1.out.cell 1 rfl),(hW.cell (p:=⟨X,2,none⟩) HN1.out.lt).trans (HN1.out.cell 2 rfl)⟩
   intro c W9 hS hB9 e64 e66 e67
   obtain ⟨W10,hup,hmi,hs10,ho10,hb10⟩:=mi_new Tryz.underlying68' (HJ.out.gs.n.below hB9 (Nat.le_refl _)) nn (.agg #[.int .i64 nn,.slice la ln lc,.slice pa pn pc]) hnn HNEW.out
   refine ⟨W10,?_,?_⟩
   ·generalize c.eval=ρ at *
    clear hS hmi ho10 hb10
    go_simp
   rw [same_put hS [60,61,62,63,64,65,66,67] (by kernel_rfl)]
   obtain ⟨y60,q60⟩:∃ y,c.eval (.tmp 60)=y:=⟨_,rfl⟩
   obtain ⟨y61,q61⟩:∃ y,c.eval (.tmp 61)=y:=⟨_,rfl⟩
   obtain ⟨y62,q62⟩:∃ y,c.eval (.tmp 62)=y:=⟨_,rfl⟩
   obtain ⟨y63,q63⟩:∃ y,c.eval (.tmp 63)=y:=⟨_,rfl⟩
   obtain ⟨y64,q64⟩:∃ y,c.eval (.tmp 64)=y:=⟨_,rfl⟩
   obtain ⟨y65,q65⟩:∃ y,c.eval (.tmp 65)=y:=⟨_,rfl⟩
   obtain ⟨y66,q66⟩:∃ y,c.eval (.tmp 66)=y:=⟨_,rfl⟩
   obtain ⟨y67,q67⟩:∃ y,c.eval (.tmp 67)=y:=⟨_,rfl⟩
   simp only [List.foldl_cons,List.foldl_nil,q60,q61,q62,q63,q64,q65,q66,q67]
   clear q60 q61 q62 q63 q64 q65 q66 q67 hS e64 e66 e67 hup
   simp only [List.setIfInBounds_toArray,List.set_cons_succ,List.set_cons_zero]
   obtain ⟨o1,o2,o3,o4,o5,n1,n2,n3,n4,n5,n6,n7,n8,n9,n10⟩:=HOK.out
   obtain ⟨u1,u2,u3,u4,u5⟩:=HJ.out.old
   have HG9:=hidE (HJ.out.gs.below hB9)
   have HG10:Hid (GS W10 p nn nr (N++[(nn,.agg #[.int .i64 nn,.slice la ln lc,.slice pa pn pc])]) R F T) :=
    ⟨HG9.out.obj.keep (ho10 _ n1),hmi,HG9.out.r.block (ho10 _ (Ne.symm n5)),HG9.out.f.block (ho10 _ (Ne.symm n6)),HG9.out.t.block (ho10 _ (Ne.symm n7))⟩
   have HX10:Hid (Rec W10 X #[.int .i64 nn,.slice la ln lc,.slice pa pn pc] 47):=(HN1.out.below hB9 HN1.out.lt).keep (ho10 _ (by omega))
   have HRow10:Hid (W10.ownsRow (g+1) 9 1 (.slice la ln lc) ln (done.map Value.string)):=row_keep HN2.out fun i hi hl=>(ho10 i (by omega)).trans (hB9.block i hl)
   have HB10:Hid (Below B w W10):=(HJ.out.below.mono hB).trans ((hB9.mono (by have:=HJ.out.below.size;omega)).trans (hb10.mono o2))
   clear hmi ho10 hb10 hs10 hB9 HG9
   have c2:=HG10.out.c2
   have z2:=HG10.out.obj.z 2
   have hwr:IntKind.i64.wrap (nn+1)=nn+1:=by rw [IntKind.wrap_i64];omega
   go_upto_region 15 with fail
   generalize hW11:World.setCell _ _ _=W11
   have HX11:Hid (Rec W11 X #[.int .i64 nn,.slice la ln lc,.slice pa pn pc] 47):=by rw [← hW11];exact HX10.out.other (by omega)
   have HG11:Hid (GS W11 p (nn+1) nr (N++[(nn,.agg #[.int .i64 nn,.slice la ln lc,.slice pa pn pc])]) R F T):=by
    rw [← hW11]
    refine ⟨?_,HG10.out.n.block (Below.heap_setCell _ _ _ _ (Ne.symm n1)),HG10.out.r.block (Below.heap_setCell _ _ _ _ (Ne.symm n2)),HG10.out.f.block (Below.heap_setCell _ _ _ _ (Ne.symm n3)),HG10.out.t.block (Below.heap_setCell _ _ _ _ (Ne.symm n4))⟩
    have:=HG10.out.obj.set 2 (.int .i64 (nn+1))
    simpa [GP.cells] using this
   have HB11:Hid (Below B w W11):=by rw [← hW11];exact HB10.out.setCell (p:=⟨p.g,2,none⟩) o1 _
   have HRow11:Hid (W11.ownsRow (g+1) 9 1 (.slice la ln lc) ln (done.map Value.string)):=by
    rw [← hW11]
    exact row_keep HRow10.out fun i hi _=>Below.heap_setCell _ _ _ _ (by show i≠p.g;omega)
   clear hW11 c2 z2
   have x0:=HX11.out.cell 0 rfl
   go_wp2_with fail
   go_ret2
   refine ⟨rfl,la,ln,lc,pa,pn,pc,HG11.out,HB11.out,?_,fun he=>?_,HKV.out⟩
   ·have:=row_base HRow11.out (show w.heap.size≤g+1 by omega)
    rw [HD.out] at this
    rw [← HLN.out,HD.out] at this ⊢
    exact this
   have he':done=[]:=by rw [HD.out];exact he
   exact ⟨(HN3'.out he').1,by rw [← HLN.out,he'];rfl,(HN3'.out he').2⟩
  ·have HJ:=hidE hJ
   have HD:=hidE hd
   obtain ⟨la,lc,hn1,hn2,_⟩:=hJ.node
   have HN1:=hidE hn1
   have HN2:=hidE hn2
   have x1:=hn1.cell 1 rfl
   have hrm:=hJ.room
   have hdl:done.length+1≤2000000:=by
    have:=congrArg List.length hd
    simp only [List.length_append,List.length_cons] at this
    omega
   clear hJ hd hn1 hn2 HI8
   obtain ⟨i0,hi,hz0,hz1,hz2⟩:=info_parts Tryz.info9
   obtain ⟨ln,hln⟩:∃ ln,done.length=ln:=⟨_,rfl⟩
   rw [hln] at HN1 HN2 hdl
   replace x1:wr.cell? ⟨X,1,none⟩=some (.slice la ln lc):=HN1.out.cell 1 rfl
   have HLN:=hidE hln
   clear hln
   go_wp2_with (at_builtin;refine wpList_append_own _ rfl _ _ 44 rfl (g+1) 9 i0 (.string ⟨#[]⟩) 1 16 Tryz.underlying44 hi hz0 hz1 hz2 rfl (by decide) _ _ _ rfl (row_keep HN2.out fun g _ hg=>Below.heap_alloc _ _ _ hg) ⟨wr.heap.size,0,none⟩ 1 1 [.string x] rfl rfl ?d1 ?d2 ?d3 ?d4 ?d5 ?_)
   case d1 =>
    intro j u hj
    have hadd:(⟨wr.heap.size,0,none⟩:Addr).add j=⟨wr.heap.size,j,none⟩:=by unfold Addr.add;split<;>simp_all
    rw [hadd]
    refine cell_new _ _ _ _ _ ?_
    simpa using hj
   case d2=>intro u hu;simp only [List.mem_cons,List.not_mem_nil,or_false] at hu;subst hu;rfl
   case d3=>unfold maxLen;omega
   case d4=>omega
   case d5=>first | omega | (simp;omega)
   intro v3 w3 hown3 hgrow3 _
   obtain ⟨ub,ud,rfl⟩:=row_slice hown3
   have hb3:Below (g+1) wr w3:=((Below.refl _ wr).alloc (by omega) _).trans (row_grown (row_keep HN2.out fun g _ hg=>Below.heap_alloc _ _ _ hg) (by simp;omega) hgrow3)
   have HB3:=hidE hb3
   have HO3:=hidE hown3
   have HN3:=hidE (HN1.out.below hb3 (by omega))
   have y1:=HN3.out.cell 1 rfl
   have fy:=HN3.out.z 1
   have hs3:=hb3.size
   clear hown3 hgrow3 hb3 x1
   go_upto_region 11 with fail
   generalize hW4:World.setCell _ _ _=W4
   have HJ4:Hid (AnJ w p nn nr N R F T X lo g pa pn pc (done++[x]) rest W4):=by
    obtain ⟨u1,u2,u3,u4,u5⟩:=HJ.out.old
    have hkk:∀ i,i<g+1→i≠X→W4.heap[i]?=wr.heap[i]?:=fun i hi hx=>by
     rw [← hW4]
     exact (Below.heap_setCell _ _ _ _ hx).trans (HB3.out.block i hi)
    refine ⟨⟨HJ.out.gs.obj.keep (hkk _ (by omega) (by omega)),HJ.out.gs.n.block (hkk _ (by omega) (by omega)),HJ.out.gs.r.block (hkk _ (by omega) (by omega)),HJ.out.gs.f.block (hkk _ (by omega) (by omega)),HJ.out.gs.t.block (hkk _ (by omega) (by omega))⟩,⟨ub,ud,?_,?_,fun h=>by simp at h⟩,HJ.out.left.keep (fun i h1 h2=>hkk i (by omega) (by omega)) (by omega),?_,?_,HJ.out.old⟩
    ·rw [← hW4,List.length_append,HLN.out]
     have:=HN3.out.set 1 (.slice ub (ln+1) ud)
     simpa using this
    ·rw [List.length_append,HLN.out,List.map_append]
     exact row_keep HO3.out fun i hi _=>by
      rw [← hW4]
      exact Below.heap_setCell _ _ _ _ (by show i≠X;omega)
    ·rw [← hW4]
     exact (HJ.out.below.trans (HB3.out.mono (by omega))).setCell (p:=⟨X,1,none⟩) hX0 _
    ·rw [← hW4];simp [World.setCell];omega
   have HNX:=hidE (next_any HJ4.out.left)
   have HLR:Hid (lenAt wr g=rest.length):=by
    obtain ⟨a,c,h1,_⟩:=HJ.out.left
    exact lenAt_of h1
   clear hW4 y1 fy HB3 HO3 HN3 hs3 HN1 HN2 HJ HLN
   go_wp2_with fail
   refine HNX.out.mono ?_
   rintro e w5 ⟨v5,b5,rfl,hn5⟩
   obtain ⟨hI5,hm5⟩:=HJ4.out.next (S:=S) hn5 (by rw [List.append_assoc];exact HD.out) hlo hg7 hX0
   have HI5:=hidE hI5
   have HM5:=hidE hm5
   clear hI5 hm5 hn5 HNX HJ4
   go_wp2_with fail
   go_roundw
   case rel=>exact HI5.out
   case measure =>
    rw [HLR.out]
    have e1:moreN (.bool true)=1:=rfl
    rw [e1]
    rcases HM5.out with h | h<;>omega
end Go.Proofs.YteddjlbfbpecjaaGreatDoor

