/- A relationship is put down at both its ends, whatever lies there. May a graph be: the program's word. -/
import Derived.Test.YteddjlbfbpecjaaGreatDoorJoin29
import Derived.Test.YteddjlbfbpecjaaGreatDoorJoin28
import Derived.Test.YteddjlbfbpecjaaGreatDoorGed17
import Derived.Test.YteddjlbfbpecjaaGreatDoorJoin27
import Derived.Test.YteddjlbfbpecjaaGreatDoorJoin7
namespace Go.Proofs.YteddjlbfbpecjaaGreatDoor
open Go.RowKit Go.Shelf
set_option linter.unusedVariables false
set_option linter.unusedSimpArgs false
attribute [local go_sem] Oper.semAt_some
theorem lists_keys {lo:Nat} {w:World} {E:List (Int × Value)} {L:List (Int × List Int)} (h:Lists lo w E L):E.map Prod.fst=L.map Prod.fst:=by
 apply List.ext_getElem?
 intro i
 rw [List.getElem?_map,List.getElem?_map]
 by_cases hi:i<L.length
 ·obtain ⟨⟨k,l⟩,hL⟩:∃ q,L[i]?=some q:=⟨_,List.getElem?_eq_getElem hi⟩
  obtain ⟨v,h1,_⟩:=h.2 i k l hL
  rw [hL,h1];rfl
 ·rw [List.getElem?_eq_none (by rw [h.1];omega),List.getElem?_eq_none (by omega)];rfl
theorem nodup_at {E:List (Int × Value)} (hd:(E.map Prod.fst).Nodup) {i j:Nat} {k:Int} {u v:Value} (hi:E[i]?=some (k,u)) (hj:E[j]?=some (k,v)):i=j:=by
 have h1:=(List.getElem?_eq_some_iff.1 hi)
 have h2:=(List.getElem?_eq_some_iff.1 hj)
 obtain ⟨l1,e1⟩:=h1
 obtain ⟨l2,e2⟩:=h2
 have hp:=List.pairwise_iff_getElem.1 hd
 rcases Nat.lt_trichotomy i j with h | h | h
 ·exact absurd (by rw [List.getElem_map,List.getElem_map,e1,e2]) (hp i j (by simpa using l1) (by simpa using l2) h)
 ·exact h
 ·exact absurd (by rw [List.getElem_map,List.getElem_map,e1,e2]) (hp j i (by simpa using l2) (by simpa using l1) h)
theorem side_look {lo:Nat} {w:World} {E:List (Int × Value)} {L:List (Int × List Int)} (h:Lists lo w E L) (hd:(L.map Prod.fst).Nodup) (hl:∀ q ∈ L,q.2.length≤3000000) (b:Nat) (k:Int) (hk:I64 k) :
  ∃ SV n xs,w.ownsRow lo 2 1 SV n xs∧n≤3000000∧(∀ W,MI W b E→(Instr.lookup 72 (.map (some b)) (.int .i64 k) false).run Tryz.prog W=.ok SV W) ∧
   ∀ v' W,MI W b E→∃ E' W3,Side E L k SV v' n xs E'∧(Instr.mapUpdate 72 (.map (some b)) (.int .i64 k) v').run Tryz.prog W=.ok () W3∧MI W3 b E'∧W3.heap.size=W.heap.size∧(∀ i,i≠b→W3.heap[i]?=W.heap[i]?)∧Below b W W3:=by
 have hdE:(E.map Prod.fst).Nodup:=by rw [lists_keys h];exact hd
 by_cases hc:∃ (j:Nat) (l:List Int),L[j]?=some (k,l)
 ·obtain ⟨j,l,hj⟩:=hc
  obtain ⟨v,h1,h2⟩:=h.2 j k l hj
  have hu:∀ (i:Nat) (p:Int × Value),E[i]?=some p→p.1=k→i=j:=fun i p hp e=>by
   obtain ⟨a,u⟩:=p
   simp only at e
   subst e
   exact nodup_at hdE hp h1
  refine ⟨v,l.length,l.map (Value.int .i64),h2,hl _ (List.mem_of_getElem? hj),fun W hW=>?_,fun v' W hW=>?_⟩
  ·refine (mi_hit (z:=.slice none 0 0) Tryz.underlying72' hW k v hk (List.mem_of_getElem? h1) ?_).2
   intro p hp e
   obtain ⟨i,hi⟩:=List.getElem?_of_mem hp
   have:=hu i p hi e
   subst this
   rw [h1] at hi
   injection hi with hi
   rw [← hi]
  ·obtain ⟨W3,g1,g2,g3,g4,g5⟩:=mi_set Tryz.underlying72' hW j k v v' hk h1 hu
   exact ⟨_,W3,.old j l hj h1 rfl rfl,g1,g2,g3,g4,g5⟩
 ·have hn:∀ q ∈ L,q.1≠k:=fun q hq e=>hc (by
   obtain ⟨j,hj⟩:=List.getElem?_of_mem hq
   exact ⟨j,q.2,by rw [hj,← e]⟩)
  have hnE:∀ p ∈ E,p.1≠k:=fun p hp e=>by
   have:p.1 ∈ L.map Prod.fst:=by rw [← lists_keys h];exact List.mem_map.2 ⟨p,hp,rfl⟩
   obtain ⟨q,hq,e2⟩:=List.mem_map.1 this
   exact hn q hq (e2.trans e)
  refine ⟨.slice none 0 0,0,[],World.ownsRow_nil _ _ _ _,by omega,fun W hW=>(mi_miss Tryz.underlying72' zero100 hW k hk hnE).2,fun v' W hW=>?_⟩
  obtain ⟨W3,g1,g2,g3,g4,g5⟩:=mi_new Tryz.underlying72' hW k v' hk hnE
  exact ⟨_,W3,.new hn rfl rfl rfl,g1,g2,g3,g4,g5⟩
theorem side_other {E E':List (Int × Value)} {L:List (Int × List Int)} {k:Int} {SV v':Value} {n:Nat} {xs Z:List Value} (hs:Side E L k SV v' n xs E') (hap:Apart (E.map Prod.snd++Z)):∀ z ∈ Z,∀ q,z.ownBlock=some q→SV.ownBlock≠some q:=by
 intro z hz q hq
 cases hs with
 | old j l h1 h2 _ _ =>
  have hm:SV ∈ E.map Prod.snd:=List.mem_map.2 ⟨_,List.mem_of_getElem? h2,rfl⟩
  exact fun e=>(List.pairwise_append.1 hap).2.2 SV hm z hz q e hq
 | new _ h2 _ _=>subst h2;simp [Value.ownBlock]
set_option maxRecDepth 100000 in
set_option maxHeartbeats 8000000 in
theorem attach_any {w:World} {p:GP} {nn nr:Int} {N R F T:List (Int × Value)} (h:GS w p nn nr N R F T) (B lo:Nat) (hok:p.Ok B) (hlo:B≤lo∧lo≤w.heap.size∧p.g<lo∧p.n<lo∧p.r<lo∧p.f<lo∧p.t<lo) (LF LT:List (Int × List Int)) (hF:Lists lo w F LF) (hT:Lists lo w T LT)
  (hdF:(LF.map Prod.fst).Nodup) (hdT:(LT.map Prod.fst).Nodup) (hap:Apart (F.map Prod.snd++T.map Prod.snd)) (hlF:∀ q ∈ LF,q.2.length≤3000000) (hlT:∀ q ∈ LT,q.2.length≤3000000) (id f t:Int) (s:ByteArray) (pa:Option Addr) (pn pc:Nat) (hf:I64 f) (ht:I64 t) :
  Calls Tryz.prog 40 #[p.val,.agg #[.int .i64 id,.int .i64 f,.int .i64 t,.string s,.slice pa pn pc]] w fun e w'=>e=.returned (.tuple #[])∧∃ F' T',GS w' p nn nr N R F' T'∧Lists lo w' F' (addTo f id LF)∧Lists lo w' T' (addTo t id LT)∧Apart (F'.map Prod.snd++T'.map Prod.snd)∧Below B w w'∧(∀ i,i<lo→i≠p.f→i≠p.t→w'.heap[i]?=w.heap[i]?)∧w.heap.size≤w'.heap.size:=by
 have HG:=hidE h
 have HOK:=hidE hok
 have HF:=hidE hF
 have HT:=hidE hT
 have HAP:=hidE hap
 have HDF:=hidE hdF
 have HDT:=hidE hdT
 have HLT:=hidE hlT
 obtain ⟨SV,n,xs,hsv,hn,hlk,hup⟩:=side_look hF hdF hlF p.f f hf
 have HSV:=hidE hsv
 have HLK:=hidE hlk
 have HUP:=hidE hup
 obtain ⟨l0,l1,u1,u2,u3,u4,u5⟩:=hlo
 clear h hok hF hT hap hdF hdT hlF hlT hsv hlk hup
 unfold GP.val
 go_enter Tryz.func40,Tryz.ntmps40
 go_upto_region 1 with fail
 generalize hW1:World.alloc _ _=W1
 have HB1:Hid (Below w.heap.size w W1):=by rw [← hW1];exact (Below.refl _ _).alloc (Nat.le_refl _) _
 have HR1:Hid (Rec W1 w.heap.size #[.int .i64 id,.int .i64 f,.int .i64 t,.string s,.slice pa pn pc] 49):=by rw [← hW1];exact rec_new _ _ _
 have hs1:w.heap.size<W1.heap.size:=by rw [← hW1];simp
 have HG1:=hidE (HG.out.below HB1.out)
 have HF1:=hidE (HF.out.below HB1.out)
 have HT1:=hidE (HT.out.below HB1.out)
 clear hW1
 have HRW:Hid (∀ W,W1.grownBy W SV.ownBlock→(∀ i,i<lo→W.heap[i]?=W1.heap[i]?)∧W.heap[w.heap.size]?=W1.heap[w.heap.size]?∧(∀ q,SV.ownBlock=some q→q<W.heap.size)):=fun W hg =>
  ⟨fun i hi=>hg.block i (by omega) fun e=>by have:=(HSV.out.lt i e.symm).1;omega,hg.block _ hs1 fun e=>by have:=(HSV.out.lt _ e.symm).2;omega,fun q hq=>by have h1:=(HSV.out.lt q hq).2;have h2:=hg.size;omega⟩
 show (Code.region 1 RAG1 true).wp _ _ _ _
 refine regionAG1 SV.ownBlock W1 p id f w.heap.size lo SV n xs _ _ rfl ⟨rfl,rfl⟩ ?_ ?_ ?_
 ·intro W hW
  obtain ⟨k1,k2,k3⟩:=HRW.out W hW
  exact ⟨(World.cell?_of_block (a:=⟨p.g,4,none⟩) (k1 _ u1)).trans HG1.out.c4,(World.cell?_of_block (a:=⟨w.heap.size,1,none⟩) k2).trans (HR1.out.cell 1 rfl),(World.cell?_of_block (a:=⟨w.heap.size,0,none⟩) k2).trans (HR1.out.cell 0 rfl),HLK.out W (HG1.out.f.block (k1 _ u4)),k3⟩
 ·intro W hW
  exact ⟨owns_block HSV.out fun q hq=>((hW.block q (by have:=(HSV.out.lt q hq).2;omega)).trans (HB1.out.block q (HSV.out.lt q hq).2)),by omega,by have:=hW.size;omega,rfl,hW.size⟩
 rintro c W2 hS hg2 e7 e9 ⟨hown,hbl,ua,uc,e20⟩
 obtain ⟨k1,k2,k3⟩:=HRW.out W2 hg2
 obtain ⟨F',W3,hside,hup,hmi,hs3,ho3,hb3⟩:=HUP.out (.slice ua (n+1) uc) W2 (HG1.out.f.block (k1 _ u4))
 refine ⟨W3,?_,?_⟩
 ·generalize c.eval=ρ at *
  clear hS hmi ho3 hb3 hown hside hg2 hbl k1 k2 k3
  go_simp
 rw [e20] at hown hbl
 rw [same_put hS [4,5,6,7,8,9,10,11,12,13,14,15,16,17,18,19,20] (by kernel_rfl)]
 obtain ⟨y4,q4⟩:∃ y,c.eval (.tmp 4)=y:=⟨_,rfl⟩
 obtain ⟨y5,q5⟩:∃ y,c.eval (.tmp 5)=y:=⟨_,rfl⟩
 obtain ⟨y6,q6⟩:∃ y,c.eval (.tmp 6)=y:=⟨_,rfl⟩
 obtain ⟨y7,q7⟩:∃ y,c.eval (.tmp 7)=y:=⟨_,rfl⟩
 obtain ⟨y8,q8⟩:∃ y,c.eval (.tmp 8)=y:=⟨_,rfl⟩
 obtain ⟨y9,q9⟩:∃ y,c.eval (.tmp 9)=y:=⟨_,rfl⟩
 obtain ⟨y10,q10⟩:∃ y,c.eval (.tmp 10)=y:=⟨_,rfl⟩
 obtain ⟨y11,q11⟩:∃ y,c.eval (.tmp 11)=y:=⟨_,rfl⟩
 obtain ⟨y12,q12⟩:∃ y,c.eval (.tmp 12)=y:=⟨_,rfl⟩
 obtain ⟨y13,q13⟩:∃ y,c.eval (.tmp 13)=y:=⟨_,rfl⟩
 obtain ⟨y14,q14⟩:∃ y,c.eval (.tmp 14)=y:=⟨_,rfl⟩
 obtain ⟨y15,q15⟩:∃ y,c.eval (.tmp 15)=y:=⟨_,rfl⟩
 obtain ⟨y16,q16⟩:∃ y,c.eval (.tmp 16)=y:=⟨_,rfl⟩
 obtain ⟨y17,q17⟩:∃ y,c.eval (.tmp 17)=y:=⟨_,rfl⟩
 obtain ⟨y18,q18⟩:∃ y,c.eval (.tmp 18)=y:=⟨_,rfl⟩
 obtain ⟨y19,q19⟩:∃ y,c.eval (.tmp 19)=y:=⟨_,rfl⟩
 obtain ⟨y20,q20⟩:∃ y,c.eval (.tmp 20)=y:=⟨_,rfl⟩
 simp only [List.foldl_cons,List.foldl_nil,q4,q5,q6,q7,q8,q9,q10,q11,q12,q13,q14,q15,q16,q17,q18,q19,q20]
 clear q4 q5 q6 q7 q8 q9 q10 q11 q12 q13 q14 q15 q16 q17 q18 q19 q20
 simp only [List.setIfInBounds_toArray,List.set_cons_succ,List.set_cons_zero]
 clear hS e7 e9 e20 hup
 obtain ⟨o1,o2,o3,o4,o5,n1,n2,n3,n4,n5,n6,n7,n8,n9,n10⟩:=HOK.out
 have HG3:Hid (GS W3 p nn nr N R F' T) :=
  ⟨HG1.out.obj.keep ((ho3 _ n3).trans (k1 _ u1)),HG1.out.n.block ((ho3 _ n6).trans (k1 _ u2)),HG1.out.r.block ((ho3 _ n8).trans (k1 _ u3)),hmi,HG1.out.t.block ((ho3 _ (Ne.symm n10)).trans (k1 _ u5))⟩
 have HR3:Hid (Rec W3 w.heap.size #[.int .i64 id,.int .i64 f,.int .i64 t,.string s,.slice pa pn pc] 49):=HR1.out.keep ((ho3 _ (by omega)).trans k2)
 have hadd:=side_add HF1.out HDF.out hside hg2 hown hbl (fun i hi=>ho3 i (by omega)) HAP.out (fun z hz q hq=>by
  obtain ⟨e,he,rfl⟩:=List.mem_map.1 hz
  obtain ⟨l,_,ho⟩:=HT1.out.entry he
  exact (ho.lt q hq).2)
 have HL3:=hidE hadd.1
 have HA3:=hidE hadd.2
 have hoth:=side_other hside HAP.out
 have HT3:Hid (Lists lo W3 T LT):=HT1.out.keep fun e he q hq hlt=>by
  obtain ⟨l,_,ho⟩:=HT1.out.entry he
  have hge:=(ho.lt q hq).1
  exact (ho3 q (by omega)).trans (hg2.block q hlt fun e2=>hoth e.2 (List.mem_map.2 ⟨e,he,rfl⟩) q hq e2.symm)
 have hs3':W1.heap.size≤W3.heap.size:=by rw [hs3];exact hg2.size
 have HK3:Hid (∀ i,i<lo→i≠p.f→W3.heap[i]?=w.heap[i]?):=fun i hi h1=>(ho3 i h1).trans ((k1 i hi).trans (HB1.out.block i (by omega)))
 have HB3:Hid (Below B w W3):=(HB1.out.mono (by omega)).trans ((grown_to hg2 (fun q hq=>by have:=(HSV.out.lt q hq).1;omega) (by omega)).trans (hb3.mono o4))
 clear hmi ho3 hb3 hs3 hg2 hown HG1 HB1 HR1 hadd hoth hside hbl k1 k2 k3 HRW HF1 HT1 HUP HLK HSV hn
 obtain ⟨SV2,n2',xs2,hsv,hn,hlk,hup⟩:=side_look HT3.out HDT.out HLT.out p.t t ht
 have HSV:=hidE hsv
 have HLK:=hidE hlk
 have HUP:=hidE hup
 clear hsv hlk hup
 go_upto_region 2 with fail
 have HRW:Hid (∀ W,W3.grownBy W SV2.ownBlock→(∀ i,i<lo→W.heap[i]?=W3.heap[i]?)∧(SV2.ownBlock≠some w.heap.size→W.heap[w.heap.size]?=W3.heap[w.heap.size]?)∧(∀ q,SV2.ownBlock=some q→q<W.heap.size)):=fun W hg =>
  ⟨fun i hi=>hg.block i (by omega) fun e=>by have:=(HSV.out.lt i e.symm).1;omega,fun hne=>hg.block _ (by omega) fun e=>hne e.symm,fun q hq=>by have h1:=(HSV.out.lt q hq).2;have h2:=hg.size;omega⟩
 have hne:SV2.ownBlock≠some w.heap.size:=fun e=>by
  obtain ⟨_,⟨g2,g3⟩ | ⟨g,cap,cur,g2,g3,g4,g5⟩⟩:=HSV.out
  ·rw [g2] at e;cases e
  ·have hg:g=w.heap.size:=by rw [g2] at e;injection e
   have hb:W3.heap[w.heap.size]?=_:=HR3.out
   rw [hg,hb] at g4
   simp at g4
 show (Code.region 2 RAG2 true).wp _ _ _ _
 refine regionAG2 SV2.ownBlock W3 p id t w.heap.size lo SV2 n2' xs2 _ _ rfl ⟨rfl,rfl⟩ ?_ ?_ ?_
 ·intro W hW
  obtain ⟨k1,k2,k3⟩:=HRW.out W hW
  exact ⟨(World.cell?_of_block (a:=⟨p.g,5,none⟩) (k1 _ u1)).trans HG3.out.c5,(World.cell?_of_block (a:=⟨w.heap.size,2,none⟩) (k2 hne)).trans (HR3.out.cell 2 rfl),(World.cell?_of_block (a:=⟨w.heap.size,0,none⟩) (k2 hne)).trans (HR3.out.cell 0 rfl),HLK.out W (HG3.out.t.block (k1 _ u5)),k3⟩
 ·intro W hW
  exact ⟨owns_block HSV.out fun q hq=>hW.block q (HSV.out.lt q hq).2,by omega,by have:=hW.size;omega,rfl,hW.size⟩
 rintro c W4 hS hg4 e7 e9 ⟨hown,hbl,va,vc,e20⟩
 obtain ⟨k1,k2,k3⟩:=HRW.out W4 hg4
 obtain ⟨T',W5,hside,hup,hmi,hs5,ho5,hb5⟩:=HUP.out (.slice va (n2'+1) vc) W4 (HG3.out.t.block (k1 _ u5))
 refine ⟨W5,?_,?_⟩
 ·generalize c.eval=ρ at *
  clear hS hmi ho5 hb5 hown hside hg4 hbl k1 k2 k3
  go_simp
 rw [e20] at hown hbl
 rw [same_put hS [21,22,23,24,25,26,27,28,29,30,31,32,33,34,35,36,37] (by kernel_rfl)]
 obtain ⟨y21,q21⟩:∃ y,c.eval (.tmp 21)=y:=⟨_,rfl⟩
 obtain ⟨y22,q22⟩:∃ y,c.eval (.tmp 22)=y:=⟨_,rfl⟩
 obtain ⟨y23,q23⟩:∃ y,c.eval (.tmp 23)=y:=⟨_,rfl⟩
 obtain ⟨y24,q24⟩:∃ y,c.eval (.tmp 24)=y:=⟨_,rfl⟩
 obtain ⟨y25,q25⟩:∃ y,c.eval (.tmp 25)=y:=⟨_,rfl⟩
 obtain ⟨y26,q26⟩:∃ y,c.eval (.tmp 26)=y:=⟨_,rfl⟩
 obtain ⟨y27,q27⟩:∃ y,c.eval (.tmp 27)=y:=⟨_,rfl⟩
 obtain ⟨y28,q28⟩:∃ y,c.eval (.tmp 28)=y:=⟨_,rfl⟩
 obtain ⟨y29,q29⟩:∃ y,c.eval (.tmp 29)=y:=⟨_,rfl⟩
 obtain ⟨y30,q30⟩:∃ y,c.eval (.tmp 30)=y:=⟨_,rfl⟩
 obtain ⟨y31,q31⟩:∃ y,c.eval (.tmp 31)=y:=⟨_,rfl⟩
 obtain ⟨y32,q32⟩:∃ y,c.eval (.tmp 32)=y:=⟨_,rfl⟩
 obtain ⟨y33,q33⟩:∃ y,c.eval (.tmp 33)=y:=⟨_,rfl⟩
 obtain ⟨y34,q34⟩:∃ y,c.eval (.tmp 34)=y:=⟨_,rfl⟩
 obtain ⟨y35,q35⟩:∃ y,c.eval (.tmp 35)=y:=⟨_,rfl⟩
 obtain ⟨y36,q36⟩:∃ y,c.eval (.tmp 36)=y:=⟨_,rfl⟩
 obtain ⟨y37,q37⟩:∃ y,c.eval (.tmp 37)=y:=⟨_,rfl⟩
 simp only [List.foldl_cons,List.foldl_nil,q21,q22,q23,q24,q25,q26,q27,q28,q29,q30,q31,q32,q33,q34,q35,q36,q37]
 clear q21 q22 q23 q24 q25 q26 q27 q28 q29 q30 q31 q32 q33 q34 q35 q36 q37
 simp only [List.setIfInBounds_toArray,List.set_cons_succ,List.set_cons_zero]
 clear hS e7 e9 e20 hup
 have HG5:Hid (GS W5 p nn nr N R F' T') :=
  ⟨HG3.out.obj.keep ((ho5 _ n4).trans (k1 _ u1)),HG3.out.n.block ((ho5 _ n7).trans (k1 _ u2)),HG3.out.r.block ((ho5 _ n9).trans (k1 _ u3)),HG3.out.f.block ((ho5 _ n10).trans (k1 _ u4)),hmi⟩
 have hap2:=apart_comm HA3.out
 have hadd:=side_add HT3.out HDT.out hside hg4 hown hbl (fun i hi=>ho5 i (by omega)) hap2 (fun z hz q hq=>by
  obtain ⟨e,he,rfl⟩:=List.mem_map.1 hz
  obtain ⟨l,_,ho⟩:=HL3.out.entry he
  exact (ho.lt q hq).2)
 have hoth:=side_other hside hap2
 have HF5:Hid (Lists lo W5 F' (addTo f id LF)):=HL3.out.keep fun e he q hq hlt=>by
  obtain ⟨l,_,ho⟩:=HL3.out.entry he
  have hge:=(ho.lt q hq).1
  exact (ho5 q (by omega)).trans (hg4.block q hlt fun e2=>hoth e.2 (List.mem_map.2 ⟨e,he,rfl⟩) q hq e2.symm)
 have HT5:Hid (Lists lo W5 T' (addTo t id LT)):=hadd.1
 have HA5:Hid (Apart (F'.map Prod.snd++T'.map Prod.snd)):=apart_comm hadd.2
 have HB5:Hid (Below B w W5):=HB3.out.trans ((grown_to hg4 (fun q hq=>by have:=(HSV.out.lt q hq).1;omega) (by omega)).trans (hb5.mono o5))
 have HK5:Hid (∀ i,i<lo→i≠p.f→i≠p.t→W5.heap[i]?=w.heap[i]?):=fun i hi h1 h2=>(ho5 i h2).trans ((k1 i hi).trans (HK3.out i hi h1))
 have hs9:w.heap.size≤W5.heap.size:=by have:=hg4.size;omega
 clear hmi ho5 hb5 hs5 hg4 hown hadd hoth hside hbl
 go_wp2_with fail
 exact bodyPost_end (v:=.tuple #[]) (by simp [results,Tryz.results40,go_sem]) rfl ⟨rfl,_,_,HG5.out,HF5.out,HT5.out,HA5.out,HB5.out,HK5.out,hs9⟩
end Go.Proofs.YteddjlbfbpecjaaGreatDoor

namespace Go.Proofs.YteddjlbfbpecjaaGreatDoor
open Go.RowKit Go.Shelf
set_option linter.unusedVariables false
set_option linter.unusedSimpArgs false
attribute [local go_sem] Oper.semAt_some
theorem i64_of {k:Int} (h1:-9223372036854775808≤k) (h2:k≤9223372036854775807):I64 k:=by
 have a:IntKind.i64.min=-9223372036854775808:=by kernel_rfl
 have b:IntKind.i64.max=9223372036854775807:=by kernel_rfl
 unfold I64 Lit.wf
 simp [a,b]
 omega
theorem riseI_all {next:Int}:∀ {ks:List Int} {l:Int},riseI next l ks=true→(∀ x ∈ ks,l≤x∧x<next)∧ks.Pairwise (·≠·)
 | [],l,h=>⟨fun x hx=>by simp at hx,List.Pairwise.nil⟩
 | y::r,l,h=>by
  rw [riseI] at h
  simp only [Bool.and_eq_true,Bool.not_eq_true',decide_eq_false_iff_not] at h
  obtain ⟨h1,h2,h3⟩:=h
  obtain ⟨h4,h5⟩:=riseI_all h3
  refine ⟨fun x hx=>?_,List.pairwise_cons.2 ⟨fun x hx=>by have:=h4 x hx;omega,h5⟩⟩
  rcases List.mem_cons.1 hx with rfl | hx
  ·omega
  ·have:=h4 x hx;omega
def checkPB (g:GraphP):Bool:=decide ((g.nodes.length:Int)+(g.rels.length:Int)≤65536)&&((riseI g.nn 0 (g.nodes.map NodeP.id)&&riseI g.nr 0 (g.rels.map RelP.id))&&(labelsB g.nodes&&((nodePropsB g.nodes&&relPropsB g.rels)&&(typesB g.rels&&endsB (idsE g.nodes) g.rels))))
set_option maxRecDepth 100000 in
set_option maxHeartbeats 4000000 in
theorem checkP_any (g:GraphP) (B:Nat) (v:Value) (w:World) (hB:B≤w.heap.size) (hE:Env w) (hg:GraphLies B w v g) (hz:Mild g) (hn1:-9223372036854775808≤g.nn∧g.nn≤9223372036854775807) (hn2:-9223372036854775808≤g.nr∧g.nr≤9223372036854775807) (hi2:∀ r ∈ g.rels,I64 r.fr∧I64 r.tt):Calls Tryz.prog 11 #[v] w fun e w'=>e=.returned (.int .i64 (if checkPB g=true then 0 else 2))∧Below w.heap.size w w':=by
 have HE:=hidE hE
 obtain ⟨res,hres⟩:∃ r,checkPB g=r:=⟨_,rfl⟩
 rw [hres]
 obtain ⟨code,hcode⟩:∃ c:Int,(if res=true then 0 else 2)=c:=⟨_,rfl⟩
 rw [hcode]
 have HCD:=hidE hcode
 clear hcode
 unfold checkPB at hres
 have hg0:=hg
 obtain ⟨na,nc,ra,rc,rfl,_,_⟩:=hg0
 have HC0:Hid (∀ W,Below w.heap.size w W→Calls Tryz.prog 93 #[.agg #[.slice na g.nodes.length nc,.slice ra g.rels.length rc,.int .i64 g.nn,.int .i64 g.nr]] W fun e w'=>e=.returned (.bool (decide ((g.nodes.length:Int)+(g.rels.length:Int)≤65536)))∧Below W.heap.size W w'):=fun W hb=>few_any g B _ W (by have:=hb.size;omega) (HE.out.below hb HE.out.room) (hg.below (hb.mono hB)) hz
 have HC1:Hid (∀ W,Below w.heap.size w W→Calls Tryz.prog 94 #[.agg #[.slice na g.nodes.length nc,.slice ra g.rels.length rc,.int .i64 g.nn,.int .i64 g.nr]] W fun e w'=>e=.returned (.bool ((riseI g.nn 0 (g.nodes.map NodeP.id)&&riseI g.nr 0 (g.rels.map RelP.id))))∧Below W.heap.size W w'):=fun W hb=>numbers_any g B _ W (by have:=hb.size;omega) (hg.below (hb.mono hB)) hn1 hn2
 have HC2:Hid (∀ W,Below w.heap.size w W→Calls Tryz.prog 95 #[.agg #[.slice na g.nodes.length nc,.slice ra g.rels.length rc,.int .i64 g.nn,.int .i64 g.nr]] W fun e w'=>e=.returned (.bool (labelsB g.nodes))∧Below W.heap.size W w'):=fun W hb=>labels_any g B _ W (by have:=hb.size;omega) (HE.out.below hb HE.out.room) (hg.below (hb.mono hB)) hz
 have HC3:Hid (∀ W,Below w.heap.size w W→Calls Tryz.prog 96 #[.agg #[.slice na g.nodes.length nc,.slice ra g.rels.length rc,.int .i64 g.nn,.int .i64 g.nr]] W fun e w'=>e=.returned (.bool ((nodePropsB g.nodes&&relPropsB g.rels)))∧Below W.heap.size W w'):=fun W hb=>props_any g B _ W (by have:=hb.size;omega) (HE.out.below hb HE.out.room) (hg.below (hb.mono hB)) hz
 have HC4:Hid (∀ W,Below w.heap.size w W→Calls Tryz.prog 97 #[.agg #[.slice na g.nodes.length nc,.slice ra g.rels.length rc,.int .i64 g.nn,.int .i64 g.nr]] W fun e w'=>e=.returned (.bool (typesB g.rels))∧Below W.heap.size W w'):=fun W hb=>types_any g B _ W (by have:=hb.size;omega) (HE.out.below hb HE.out.room) (hg.below (hb.mono hB)) hz
 have HC5:Hid ((riseI g.nn 0 (g.nodes.map NodeP.id)&&riseI g.nr 0 (g.rels.map RelP.id))=true→∀ W,Below w.heap.size w W→Calls Tryz.prog 98 #[.agg #[.slice na g.nodes.length nc,.slice ra g.rels.length rc,.int .i64 g.nn,.int .i64 g.nr]] W fun e w'=>e=.returned (.bool (endsB (idsE g.nodes) g.rels))∧Below W.heap.size W w'):=fun hk W hb=>by
  have hk1:=riseI_all (Bool.and_eq_true_iff.1 hk).1
  exact ends_any g B _ W (by have:=hb.size;omega) (hg.below (hb.mono hB)) hk1.2 (fun n hn=>by
   have:=hk1.1 n.id (List.mem_map_of_mem hn)
   exact i64_of (by omega) (by omega)) hi2
 obtain ⟨b0,hb0⟩:∃ b,decide ((g.nodes.length:Int)+(g.rels.length:Int)≤65536)=b:=⟨_,rfl⟩
 obtain ⟨b1,hb1⟩:∃ b,(riseI g.nn 0 (g.nodes.map NodeP.id)&&riseI g.nr 0 (g.rels.map RelP.id))=b:=⟨_,rfl⟩
 obtain ⟨b2,hb2⟩:∃ b,labelsB g.nodes=b:=⟨_,rfl⟩
 obtain ⟨b3,hb3⟩:∃ b,(nodePropsB g.nodes&&relPropsB g.rels)=b:=⟨_,rfl⟩
 obtain ⟨b4,hb4⟩:∃ b,typesB g.rels=b:=⟨_,rfl⟩
 obtain ⟨b5,hb5⟩:∃ b,endsB (idsE g.nodes) g.rels=b:=⟨_,rfl⟩
 rw [hb0] at HC0
 rw [hb1] at HC1
 rw [hb2] at HC2
 rw [hb3] at HC3
 rw [hb4] at HC4
 rw [hb1,hb5] at HC5
 rw [hb0,hb1,hb2,hb3,hb4,hb5] at hres
 have HR:=hidE hres
 clear hb0 hb1 hb2 hb3 hb4 hb5 hres hg hz hn1 hn2 hi2
 obtain ⟨ns,rs,nn,nr⟩:=g
 simp only at HC0 HC1 HC2 HC3 HC4 HC5 ⊢
 generalize ns.length=n at *
 generalize rs.length=m at *
 go_enter Tryz.func11,Tryz.ntmps11
 go_upto_region 1 with fail
 generalize hW1:World.alloc _ _=W1
 have hr1:=rec_new w #[.slice na n nc,.slice ra m rc,.int .i64 nn,.int .i64 nr] 25
 rw [hW1] at hr1
 have HB1:Hid (Below w.heap.size w W1):=by rw [← hW1];exact (Below.refl _ _).alloc (Nat.le_refl _) _
 have HR1:=hidE hr1
 clear hW1 hr1
 go_wp2_with fail
 refine (rules_any _).mono ?_
 rintro e w2 ⟨rfl,hb2,ht2⟩
 have HC2w:=hidE hb2
 have HT:=hidE ht2
 obtain ⟨p,hp⟩:∃ p,W1.heap.size=p:=⟨_,rfl⟩
 have hpl:p<w2.heap.size:=by
  rw [← hp]
  exact lt_of_cell (ht2 0 _ rfl)
 rw [hp] at HT ⊢
 clear hb2 ht2 hp
 go_wp2_with fail
 go_loopw [7] (fun x wr=>∃ q:Nat,q≤6∧x=.int .i64 q∧Below w2.heap.size w2 wr∧(([b0,b1,b2,b3,b4,b5].drop q).all id)=res∧(2≤q→b1=true)) (fun x _=>6 - (intOf x).toNat)
 case atStart=>exact ⟨0,by omega,rfl,Below.refl _ _,by rw [← HR.out];simp,fun h=>by omega⟩
 case round =>
  obtain ⟨q,hq,rfl,hb,hrs,hq2⟩:=hrel
  have HB:=hidE hb
  have HRS:=hidE hrs
  have HQ2:=hidE hq2
  have HBW:=hidE (below_on HB1.out (below_on HC2w.out hb))
  have hrec:=HR1.out.below (below_on HC2w.out hb) HR1.out.lt
  have a0:=hrec.cell 0 rfl
  have a1:=hrec.cell 1 rfl
  have a2:=hrec.cell 2 rfl
  have a3:=hrec.cell 3 rfl
  clear hb hrs hq2 hrec
  have hcs:q=0∨q=1∨q=2∨q=3∨q=4∨q=5∨q=6:=by omega
  rcases hcs with rfl | rfl | rfl | rfl | rfl | rfl | rfl
  ·have k0:=cell_below HB.out (Nat.le_refl _) (HT.out 0 _ rfl)
   have HCX:=hidE (HC0.out wr HBW.out)
   go_wp2_with fail
   refine HCX.out.mono ?_
   rintro e w3 ⟨rfl,hb3⟩
   have HB3:=hidE (below_on HB.out hb3)
   have HBW3:=hidE (below_on HBW.out hb3)
   clear hb3 a0 a1 a2 a3 k0 HCX
   cases b0 with
   | false =>
    have HF:Hid (code=2):=by
     show _=_
     have e:res=false:=by rw [← HRS.out];rfl
     rw [← HCD.out,e];rfl
    go_wp2_with fail
    go_ret
    exact ⟨by rw [HF.out];rfl,HBW3.out⟩
   | true =>
    have HN2:=hidE HRS.out
    go_wp2_with fail
    go_roundw
    case rel=>exact ⟨1,by omega,rfl,HB3.out,HN2.out,fun h=>by omega⟩
    case measure=>simp [intOf]
  ·have k0:=cell_below HB.out (Nat.le_refl _) (HT.out 1 _ rfl)
   have HCX:=hidE (HC1.out wr HBW.out)
   go_wp2_with fail
   refine HCX.out.mono ?_
   rintro e w3 ⟨rfl,hb3⟩
   have HB3:=hidE (below_on HB.out hb3)
   have HBW3:=hidE (below_on HBW.out hb3)
   clear hb3 a0 a1 a2 a3 k0 HCX
   cases b1 with
   | false =>
    have HF:Hid (code=2):=by
     show _=_
     have e:res=false:=by rw [← HRS.out];rfl
     rw [← HCD.out,e];rfl
    go_wp2_with fail
    go_ret
    exact ⟨by rw [HF.out];rfl,HBW3.out⟩
   | true =>
    have HN2:=hidE HRS.out
    go_wp2_with fail
    go_roundw
    case rel=>exact ⟨2,by omega,rfl,HB3.out,HN2.out,fun h=>trivial⟩
    case measure=>simp [intOf]
  ·have k0:=cell_below HB.out (Nat.le_refl _) (HT.out 2 _ rfl)
   have HCX:=hidE (HC2.out wr HBW.out)
   go_wp2_with fail
   refine HCX.out.mono ?_
   rintro e w3 ⟨rfl,hb3⟩
   have HB3:=hidE (below_on HB.out hb3)
   have HBW3:=hidE (below_on HBW.out hb3)
   clear hb3 a0 a1 a2 a3 k0 HCX
   cases b2 with
   | false =>
    have HF:Hid (code=2):=by
     show _=_
     have e:res=false:=by rw [← HRS.out];rfl
     rw [← HCD.out,e];rfl
    go_wp2_with fail
    go_ret
    exact ⟨by rw [HF.out];rfl,HBW3.out⟩
   | true =>
    have HN2:=hidE HRS.out
    go_wp2_with fail
    go_roundw
    case rel=>exact ⟨3,by omega,rfl,HB3.out,HN2.out,fun h=>HQ2.out (by omega)⟩
    case measure=>simp [intOf]
  ·have k0:=cell_below HB.out (Nat.le_refl _) (HT.out 3 _ rfl)
   have HCX:=hidE (HC3.out wr HBW.out)
   go_wp2_with fail
   refine HCX.out.mono ?_
   rintro e w3 ⟨rfl,hb3⟩
   have HB3:=hidE (below_on HB.out hb3)
   have HBW3:=hidE (below_on HBW.out hb3)
   clear hb3 a0 a1 a2 a3 k0 HCX
   cases b3 with
   | false =>
    have HF:Hid (code=2):=by
     show _=_
     have e:res=false:=by rw [← HRS.out];rfl
     rw [← HCD.out,e];rfl
    go_wp2_with fail
    go_ret
    exact ⟨by rw [HF.out];rfl,HBW3.out⟩
   | true =>
    have HN2:=hidE HRS.out
    go_wp2_with fail
    go_roundw
    case rel=>exact ⟨4,by omega,rfl,HB3.out,HN2.out,fun h=>HQ2.out (by omega)⟩
    case measure=>simp [intOf]
  ·have k0:=cell_below HB.out (Nat.le_refl _) (HT.out 4 _ rfl)
   have HCX:=hidE (HC4.out wr HBW.out)
   go_wp2_with fail
   refine HCX.out.mono ?_
   rintro e w3 ⟨rfl,hb3⟩
   have HB3:=hidE (below_on HB.out hb3)
   have HBW3:=hidE (below_on HBW.out hb3)
   clear hb3 a0 a1 a2 a3 k0 HCX
   cases b4 with
   | false =>
    have HF:Hid (code=2):=by
     show _=_
     have e:res=false:=by rw [← HRS.out];rfl
     rw [← HCD.out,e];rfl
    go_wp2_with fail
    go_ret
    exact ⟨by rw [HF.out];rfl,HBW3.out⟩
   | true =>
    have HN2:=hidE HRS.out
    go_wp2_with fail
    go_roundw
    case rel=>exact ⟨5,by omega,rfl,HB3.out,HN2.out,fun h=>HQ2.out (by omega)⟩
    case measure=>simp [intOf]
  ·have k0:=cell_below HB.out (Nat.le_refl _) (HT.out 5 _ rfl)
   have HCX:=hidE (HC5.out (HQ2.out (by omega)) wr HBW.out)
   go_wp2_with fail
   refine HCX.out.mono ?_
   rintro e w3 ⟨rfl,hb3⟩
   have HB3:=hidE (below_on HB.out hb3)
   have HBW3:=hidE (below_on HBW.out hb3)
   clear hb3 a0 a1 a2 a3 k0 HCX
   cases b5 with
   | false =>
    have HF:Hid (code=2):=by
     show _=_
     have e:res=false:=by rw [← HRS.out];rfl
     rw [← HCD.out,e];rfl
    go_wp2_with fail
    go_ret
    exact ⟨by rw [HF.out];rfl,HBW3.out⟩
   | true =>
    have HN2:=hidE HRS.out
    go_wp2_with fail
    go_roundw
    case rel=>exact ⟨6,by omega,rfl,HB3.out,HN2.out,fun h=>HQ2.out (by omega)⟩
    case measure=>simp [intOf]
  ·have HF:Hid (code=0):=by
    show _=_
    have e:res=true:=by rw [← HRS.out];rfl
    rw [← HCD.out,e];rfl
   go_wp2_with fail
   go_ret
   exact ⟨by rw [HF.out];rfl,HBW.out⟩
end Go.Proofs.YteddjlbfbpecjaaGreatDoor

