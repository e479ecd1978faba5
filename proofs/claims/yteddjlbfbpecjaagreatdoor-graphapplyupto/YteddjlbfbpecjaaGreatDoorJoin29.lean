/- A relationship is put down at both its ends, whatever lies there. -/
import Derived.Test.YteddjlbfbpecjaaGreatDoorJoin28
import Derived.Test.YteddjlbfbpecjaaGreatDoorJoin26
import Derived.Test.YteddjlbfbpecjaaGreatDoorJoin9
import Derived.Test.YteddjlbfbpecjaaGreatDoorJoin25
import Derived.Test.YteddjlbfbpecjaaGreatDoorJoin3
namespace Go.Proofs.YteddjlbfbpecjaaGreatDoor
section
open Go.RowKit Go.Shelf
set_option linter.all false
attribute [local go_sem] Oper.semAt_some
theorem Zjm {lo:Nat} {w:World} {E:List (Int × Value)} {L:List (Int × List Int)} (h:Lists lo w E L):E.map Prod.fst=L.map Prod.fst:=by
 apply List.ext_getElem?
 intro i
 rw [List.getElem?_map,List.getElem?_map]
 by_cases hi:i<L.length
 ·obtain ⟨⟨k,l⟩,hL⟩:∃ q,L[i]?=some q:=⟨_,List.getElem?_eq_getElem hi⟩
  obtain ⟨v,h1,_⟩:=h.2 i k l hL
  rw [hL,h1];rfl
 ·rw [List.getElem?_eq_none (by rw [h.1];omega),List.getElem?_eq_none (by omega)];rfl
theorem Zha {E:List (Int × Value)} (hd:(E.map Prod.fst).Nodup) {i j:Nat} {k:Int} {u v:Value} (hi:E[i]?=some (k,u)) (hj:E[j]?=some (k,v)):i=j:=by
 have h1:=(List.getElem?_eq_some_iff.1 hi)
 have h2:=(List.getElem?_eq_some_iff.1 hj)
 obtain ⟨l1,e1⟩:=h1
 obtain ⟨l2,e2⟩:=h2
 have hp:=List.pairwise_iff_getElem.1 hd
 rcases Nat.lt_trichotomy i j with h | h | h
 ·exact absurd (by rw [List.getElem_map,List.getElem_map,e1,e2]) (hp i j (by simpa using l1) (by simpa using l2) h)
 ·exact h
 ·exact absurd (by rw [List.getElem_map,List.getElem_map,e1,e2]) (hp j i (by simpa using l2) (by simpa using l1) h)
theorem Zmm {lo:Nat} {w:World} {E:List (Int × Value)} {L:List (Int × List Int)} (h:Lists lo w E L) (hd:(L.map Prod.fst).Nodup) (hl:∀ q ∈ L,q.2.length≤3000000) (b:Nat) (k:Int) (hk:I64 k) :
  ∃ SV n xs,w.ownsRow lo 2 1 SV n xs∧n≤3000000∧(∀ W,MI W b E→(Instr.lookup 72 (.map (some b)) (.int .i64 k) false).run Tryz.prog W=.ok SV W) ∧
   ∀ v' W,MI W b E→∃ E' W3,Jbw E L k SV v' n xs E'∧(Instr.mapUpdate 72 (.map (some b)) (.int .i64 k) v').run Tryz.prog W=.ok () W3∧MI W3 b E'∧W3.heap.size=W.heap.size∧(∀ i,i≠b→W3.heap[i]?=W.heap[i]?)∧Below b W W3:=by
 have hdE:(E.map Prod.fst).Nodup:=by rw [Zjm h];exact hd
 by_cases hc:∃ (j:Nat) (l:List Int),L[j]?=some (k,l)
 ·obtain ⟨j,l,hj⟩:=hc
  obtain ⟨v,h1,h2⟩:=h.2 j k l hj
  have hu:∀ (i:Nat) (p:Int × Value),E[i]?=some p→p.1=k→i=j:=fun i p hp e=>by
   obtain ⟨a,u⟩:=p
   simp only at e
   subst e
   exact Zha hdE hp h1
  refine ⟨v,l.length,l.map (Value.int .i64),h2,hl _ (List.mem_of_getElem? hj),fun W hW=>?_,fun v' W hW=>?_⟩
  ·refine (Zis (z:=.slice none 0 0) Tryz.underlying72' hW k v hk (List.mem_of_getElem? h1) ?_).2
   intro p hp e
   obtain ⟨i,hi⟩:=List.getElem?_of_mem hp
   have:=hu i p hi e
   subst this
   rw [h1] at hi
   injection hi with hi
   rw [← hi]
  ·obtain ⟨W3,g1,g2,g3,g4,g5⟩:=Zvt Tryz.underlying72' hW j k v v' hk h1 hu
   exact ⟨_,W3,.old j l hj h1 rfl rfl,g1,g2,g3,g4,g5⟩
 ·have hn:∀ q ∈ L,q.1≠k:=fun q hq e=>hc (by
   obtain ⟨j,hj⟩:=List.getElem?_of_mem hq
   exact ⟨j,q.2,by rw [hj,← e]⟩)
  have hnE:∀ p ∈ E,p.1≠k:=fun p hp e=>by
   have:p.1 ∈ L.map Prod.fst:=by rw [← Zjm h];exact List.mem_map.2 ⟨p,hp,rfl⟩
   obtain ⟨q,hq,e2⟩:=List.mem_map.1 this
   exact hn q hq (e2.trans e)
  refine ⟨.slice none 0 0,0,[],World.ownsRow_nil _ _ _ _,by omega,fun W hW=>(Zir Tryz.underlying72' Zkk hW k hk hnE).2,fun v' W hW=>?_⟩
  obtain ⟨W3,g1,g2,g3,g4,g5⟩:=Zf6 Tryz.underlying72' hW k v' hk hnE
  exact ⟨_,W3,.new hn rfl rfl rfl,g1,g2,g3,g4,g5⟩
theorem Zjn {E E':List (Int × Value)} {L:List (Int × List Int)} {k:Int} {SV v':Value} {n:Nat} {xs Z:List Value} (hs:Jbw E L k SV v' n xs E') (hap:Zew (E.map Prod.snd++Z)):∀ z ∈ Z,∀ q,z.ownBlock=some q→SV.ownBlock≠some q:=by
 intro z hz q hq
 cases hs with
 | old j l h1 h2 _ _ =>
  have hm:SV ∈ E.map Prod.snd:=List.mem_map.2 ⟨_,List.mem_of_getElem? h2,rfl⟩
  exact fun e=>(List.pairwise_append.1 hap).2.2 SV hm z hz q e hq
 | new _ h2 _ _=>subst h2;simp [Value.ownBlock]
set_option maxRecDepth 100000 in
set_option maxHeartbeats 8000000 in
theorem Zq9 {w:World} {p:GP} {nn nr:Int} {N R F T:List (Int × Value)} (h:GS w p nn nr N R F T) (B lo:Nat) (hok:p.Ok B) (hlo:B≤lo∧lo≤w.heap.size∧p.g<lo∧p.n<lo∧p.r<lo∧p.f<lo∧p.t<lo) (LF LT:List (Int × List Int)) (hF:Lists lo w F LF) (hT:Lists lo w T LT)
  (hdF:(LF.map Prod.fst).Nodup) (hdT:(LT.map Prod.fst).Nodup) (hap:Zew (F.map Prod.snd++T.map Prod.snd)) (hlF:∀ q ∈ LF,q.2.length≤3000000) (hlT:∀ q ∈ LT,q.2.length≤3000000) (id f t:Int) (s:ByteArray) (pa:Option Addr) (pn pc:Nat) (hf:I64 f) (ht:I64 t) :
  Calls Tryz.prog 40 #[p.val,.agg #[.int .i64 id,.int .i64 f,.int .i64 t,.string s,.slice pa pn pc]] w fun e w'=>e=.returned (.tuple #[])∧∃ F' T',GS w' p nn nr N R F' T'∧Lists lo w' F' (Zc7 f id LF)∧Lists lo w' T' (Zc7 t id LT)∧Zew (F'.map Prod.snd++T'.map Prod.snd)∧Below B w w'∧(∀ i,i<lo→i≠p.f→i≠p.t→w'.heap[i]?=w.heap[i]?)∧w.heap.size≤w'.heap.size:=by
 have HG:=Zb h
 have HOK:=Zb hok
 have HF:=Zb hF
 have HT:=Zb hT
 have HAP:=Zb hap
 have HDF:=Zb hdF
 have HDT:=Zb hdT
 have HLT:=Zb hlT
 obtain ⟨SV,n,xs,hsv,hn,hlk,hup⟩:=Zmm hF hdF hlF p.f f hf
 have HSV:=Zb hsv
 have HLK:=Zb hlk
 have HUP:=Zb hup
 obtain ⟨l0,l1,u1,u2,u3,u4,u5⟩:=hlo
 clear h hok hF hT hap hdF hdT hlF hlT hsv hlk hup
 unfold GP.val
 go_enter Tryz.func40,Tryz.ntmps40
 go_upto_region 1 with fail
 generalize hW1:World.alloc _ _=W1
 have HB1:Hid (Below w.heap.size w W1):=by rw [← hW1];exact (Below.refl _ _).alloc (Nat.le_refl _) _
 have HR1:Hid (Rec W1 w.heap.size #[.int .i64 id,.int .i64 f,.int .i64 t,.string s,.slice pa pn pc] 49):=by rw [← hW1];exact Zl _ _ _
 have hs1:w.heap.size<W1.heap.size:=by rw [← hW1];simp
 have HG1:=Zb (HG.out.below HB1.out)
 have HF1:=Zb (HF.out.below HB1.out)
 have HT1:=Zb (HT.out.below HB1.out)
 clear hW1
 have HRW:Hid (∀ W,W1.grownBy W SV.ownBlock→(∀ i,i<lo→W.heap[i]?=W1.heap[i]?)∧W.heap[w.heap.size]?=W1.heap[w.heap.size]?∧(∀ q,SV.ownBlock=some q→q<W.heap.size)):=fun W hg =>
  ⟨fun i hi=>hg.block i (by omega) fun e=>by have:=(HSV.out.lt i e.symm).1;omega,hg.block _ hs1 fun e=>by have:=(HSV.out.lt _ e.symm).2;omega,fun q hq=>by have h1:=(HSV.out.lt q hq).2;have h2:=hg.size;omega⟩
 show (Code.region 1 Zix true).wp _ _ _ _
 refine Zsc SV.ownBlock W1 p id f w.heap.size lo SV n xs _ _ rfl ⟨rfl,rfl⟩ ?_ ?_ ?_
 ·intro W hW
  obtain ⟨k1,k2,k3⟩:=HRW.out W hW
  exact ⟨(World.cell?_of_block (a:=⟨p.g,4,none⟩) (k1 _ u1)).trans HG1.out.c4,(World.cell?_of_block (a:=⟨w.heap.size,1,none⟩) k2).trans (HR1.out.cell 1 rfl),(World.cell?_of_block (a:=⟨w.heap.size,0,none⟩) k2).trans (HR1.out.cell 0 rfl),HLK.out W (HG1.out.f.block (k1 _ u4)),k3⟩
 ·intro W hW
  exact ⟨Zbm HSV.out fun q hq=>((hW.block q (by have:=(HSV.out.lt q hq).2;omega)).trans (HB1.out.block q (HSV.out.lt q hq).2)),by omega,by have:=hW.size;omega,rfl,hW.size⟩
 rintro c W2 hS hg2 e7 e9 ⟨hown,hbl,ua,uc,e20⟩
 obtain ⟨k1,k2,k3⟩:=HRW.out W2 hg2
 obtain ⟨F',W3,hside,hup,hmi,hs3,ho3,hb3⟩:=HUP.out (.slice ua (n+1) uc) W2 (HG1.out.f.block (k1 _ u4))
 refine ⟨W3,?_,?_⟩
 ·generalize c.eval=ρ at *
  clear hS hmi ho3 hb3 hown hside hg2 hbl k1 k2 k3
  go_simp
 rw [e20] at hown hbl
 rw [Zao hS [4,5,6,7,8,9,10,11,12,13,14,15,16,17,18,19,20] (by kernel_rfl)]
 obtain ⟨y4,q4⟩:∃ y,c.eval (.tmp 4)=y:=⟨_,rfl⟩
 obtain ⟨y5,q5⟩:∃ y,c.eval (.tmp 5)=y:=⟨_,rfl⟩
 obtain ⟨y6,q6⟩:∃ y,c.eval (.tmp 6)=y:=⟨_,rfl⟩
 obtain ⟨y7,q7⟩:∃ y,c.eval (.tmp 7)=y:=⟨_,rfl⟩
 obtain ⟨y8,q8⟩:∃ y,c.eval (.tmp 8)=y:=⟨_,rfl⟩
 obtain ⟨y9,q9⟩:∃ y,c.eval (.tmp 9)=y:=⟨_,rfl⟩
 obtain ⟨y10,q10⟩:∃ y,c.eval (.tmp 10)=y:=⟨_,rfl⟩
 obtain ⟨y11,q11⟩:∃ y,c.eval (.tmp 11)=y:=⟨_,rfl⟩
 obtain ⟨y12,q12⟩:∃ y,c.eval (.tmp 12)=y:=⟨_,rfl⟩
 obtain ⟨y13,q13⟩:∃ y,c.eval (.tmp 13)=y:=⟨_,rfl⟩
 obtain ⟨y14,q14⟩:∃ y,c.eval (.tmp 14)=y:=⟨_,rfl⟩
 obtain ⟨y15,q15⟩:∃ y,c.eval (.tmp 15)=y:=⟨_,rfl⟩
 obtain ⟨y16,q16⟩:∃ y,c.eval (.tmp 16)=y:=⟨_,rfl⟩
 obtain ⟨y17,q17⟩:∃ y,c.eval (.tmp 17)=y:=⟨_,rfl⟩
 obtain ⟨y18,q18⟩:∃ y,c.eval (.tmp 18)=y:=⟨_,rfl⟩
 obtain ⟨y19,q19⟩:∃ y,c.eval (.tmp 19)=y:=⟨_,rfl⟩
 obtain ⟨y20,q20⟩:∃ y,c.eval (.tmp 20)=y:=⟨_,rfl⟩
 simp only [List.foldl_cons,List.foldl_nil,q4,q5,q6,q7,q8,q9,q10,q11,q12,q13,q14,q15,q16,q17,q18,q19,q20]
 clear q4 q5 q6 q7 q8 q9 q10 q11 q12 q13 q14 q15 q16 q17 q18 q19 q20
 simp only [List.setIfInBounds_toArray,List.set_cons_succ,List.set_cons_zero]
 clear hS e7 e9 e20 hup
 obtain ⟨o1,o2,o3,o4,o5,n1,n2,n3,n4,n5,n6,n7,n8,n9,n10⟩:=HOK.out
 have HG3:Hid (GS W3 p nn nr N R F' T) :=
  ⟨HG1.out.obj.keep ((ho3 _ n3).trans (k1 _ u1)),HG1.out.n.block ((ho3 _ n6).trans (k1 _ u2)),HG1.out.r.block ((ho3 _ n8).trans (k1 _ u3)),hmi,HG1.out.t.block ((ho3 _ (Ne.symm n10)).trans (k1 _ u5))⟩
 have HR3:Hid (Rec W3 w.heap.size #[.int .i64 id,.int .i64 f,.int .i64 t,.string s,.slice pa pn pc] 49):=HR1.out.keep ((ho3 _ (by omega)).trans k2)
 have hadd:=Zov HF1.out HDF.out hside hg2 hown hbl (fun i hi=>ho3 i (by omega)) HAP.out (fun z hz q hq=>by
  obtain ⟨e,he,rfl⟩:=List.mem_map.1 hz
  obtain ⟨l,_,ho⟩:=HT1.out.entry he
  exact (ho.lt q hq).2)
 have HL3:=Zb hadd.1
 have HA3:=Zb hadd.2
 have hoth:=Zjn hside HAP.out
 have HT3:Hid (Lists lo W3 T LT):=HT1.out.keep fun e he q hq hlt=>by
  obtain ⟨l,_,ho⟩:=HT1.out.entry he
  have hge:=(ho.lt q hq).1
  exact (ho3 q (by omega)).trans (hg2.block q hlt fun e2=>hoth e.2 (List.mem_map.2 ⟨e,he,rfl⟩) q hq e2.symm)
 have hs3':W1.heap.size≤W3.heap.size:=by rw [hs3];exact hg2.size
 have HK3:Hid (∀ i,i<lo→i≠p.f→W3.heap[i]?=w.heap[i]?):=fun i hi h1=>(ho3 i h1).trans ((k1 i hi).trans (HB1.out.block i (by omega)))
 have HB3:Hid (Below B w W3):=(HB1.out.mono (by omega)).trans ((Zg6 hg2 (fun q hq=>by have:=(HSV.out.lt q hq).1;omega) (by omega)).trans (hb3.mono o4))
 clear hmi ho3 hb3 hs3 hg2 hown HG1 HB1 HR1 hadd hoth hside hbl k1 k2 k3 HRW HF1 HT1 HUP HLK HSV hn
 obtain ⟨SV2,n2',xs2,hsv,hn,hlk,hup⟩:=Zmm HT3.out HDT.out HLT.out p.t t ht
 have HSV:=Zb hsv
 have HLK:=Zb hlk
 have HUP:=Zb hup
 clear hsv hlk hup
 go_upto_region 2 with fail
 have HRW:Hid (∀ W,W3.grownBy W SV2.ownBlock→(∀ i,i<lo→W.heap[i]?=W3.heap[i]?)∧(SV2.ownBlock≠some w.heap.size→W.heap[w.heap.size]?=W3.heap[w.heap.size]?)∧(∀ q,SV2.ownBlock=some q→q<W.heap.size)):=fun W hg =>
  ⟨fun i hi=>hg.block i (by omega) fun e=>by have:=(HSV.out.lt i e.symm).1;omega,fun hne=>hg.block _ (by omega) fun e=>hne e.symm,fun q hq=>by have h1:=(HSV.out.lt q hq).2;have h2:=hg.size;omega⟩
 have hne:SV2.ownBlock≠some w.heap.size:=fun e=>by
  obtain ⟨_,⟨g2,g3⟩ | ⟨g,cap,cur,g2,g3,g4,g5⟩⟩:=HSV.out
  ·rw [g2] at e;cases e
  ·have hg:g=w.heap.size:=by rw [g2] at e;injection e
   have hb:W3.heap[w.heap.size]?=_:=HR3.out
   rw [hg,hb] at g4
   simp at g4
 show (Code.region 2 Ziy true).wp _ _ _ _
 refine Zse SV2.ownBlock W3 p id t w.heap.size lo SV2 n2' xs2 _ _ rfl ⟨rfl,rfl⟩ ?_ ?_ ?_
 ·intro W hW
  obtain ⟨k1,k2,k3⟩:=HRW.out W hW
  exact ⟨(World.cell?_of_block (a:=⟨p.g,5,none⟩) (k1 _ u1)).trans HG3.out.c5,(World.cell?_of_block (a:=⟨w.heap.size,2,none⟩) (k2 hne)).trans (HR3.out.cell 2 rfl),(World.cell?_of_block (a:=⟨w.heap.size,0,none⟩) (k2 hne)).trans (HR3.out.cell 0 rfl),HLK.out W (HG3.out.t.block (k1 _ u5)),k3⟩
 ·intro W hW
  exact ⟨Zbm HSV.out fun q hq=>hW.block q (HSV.out.lt q hq).2,by omega,by have:=hW.size;omega,rfl,hW.size⟩
 rintro c W4 hS hg4 e7 e9 ⟨hown,hbl,va,vc,e20⟩
 obtain ⟨k1,k2,k3⟩:=HRW.out W4 hg4
 obtain ⟨T',W5,hside,hup,hmi,hs5,ho5,hb5⟩:=HUP.out (.slice va (n2'+1) vc) W4 (HG3.out.t.block (k1 _ u5))
 refine ⟨W5,?_,?_⟩
 ·generalize c.eval=ρ at *
  clear hS hmi ho5 hb5 hown hside hg4 hbl k1 k2 k3
  go_simp
 rw [e20] at hown hbl
 rw [Zao hS [21,22,23,24,25,26,27,28,29,30,31,32,33,34,35,36,37] (by kernel_rfl)]
 obtain ⟨y21,q21⟩:∃ y,c.eval (.tmp 21)=y:=⟨_,rfl⟩
 obtain ⟨y22,q22⟩:∃ y,c.eval (.tmp 22)=y:=⟨_,rfl⟩
 obtain ⟨y23,q23⟩:∃ y,c.eval (.tmp 23)=y:=⟨_,rfl⟩
 obtain ⟨y24,q24⟩:∃ y,c.eval (.tmp 24)=y:=⟨_,rfl⟩
 obtain ⟨y25,q25⟩:∃ y,c.eval (.tmp 25)=y:=⟨_,rfl⟩
 obtain ⟨y26,q26⟩:∃ y,c.eval (.tmp 26)=y:=⟨_,rfl⟩
 obtain ⟨y27,q27⟩:∃ y,c.eval (.tmp 27)=y:=⟨_,rfl⟩
 obtain ⟨y28,q28⟩:∃ y,c.eval (.tmp 28)=y:=⟨_,rfl⟩
 obtain ⟨y29,q29⟩:∃ y,c.eval (.tmp 29)=y:=⟨_,rfl⟩
 obtain ⟨y30,q30⟩:∃ y,c.eval (.tmp 30)=y:=⟨_,rfl⟩
 obtain ⟨y31,q31⟩:∃ y,c.eval (.tmp 31)=y:=⟨_,rfl⟩
 obtain ⟨y32,q32⟩:∃ y,c.eval (.tmp 32)=y:=⟨_,rfl⟩
 obtain ⟨y33,q33⟩:∃ y,c.eval (.tmp 33)=y:=⟨_,rfl⟩
 obtain ⟨y34,q34⟩:∃ y,c.eval (.tmp 34)=y:=⟨_,rfl⟩
 obtain ⟨y35,q35⟩:∃ y,c.eval (.tmp 35)=y:=⟨_,rfl⟩
 obtain ⟨y36,q36⟩:∃ y,c.eval (.tmp 36)=y:=⟨_,rfl⟩
 obtain ⟨y37,q37⟩:∃ y,c.eval (.tmp 37)=y:=⟨_,rfl⟩
 simp only [List.foldl_cons,List.foldl_nil,q21,q22,q23,q24,q25,q26,q27,q28,q29,q30,q31,q32,q33,q34,q35,q36,q37]
 clear q21 q22 q23 q24 q25 q26 q27 q28 q29 q30 q31 q32 q33 q34 q35 q36 q37
 simp only [List.setIfInBounds_toArray,List.set_cons_succ,List.set_cons_zero]
 clear hS e7 e9 e20 hup
 have HG5:Hid (GS W5 p nn nr N R F' T') :=
  ⟨HG3.out.obj.keep ((ho5 _ n4).trans (k1 _ u1)),HG3.out.n.block ((ho5 _ n7).trans (k1 _ u2)),HG3.out.r.block ((ho5 _ n9).trans (k1 _ u3)),HG3.out.f.block ((ho5 _ n10).trans (k1 _ u4)),hmi⟩
 have hap2:=Zej HA3.out
 have hadd:=Zov HT3.out HDT.out hside hg4 hown hbl (fun i hi=>ho5 i (by omega)) hap2 (fun z hz q hq=>by
  obtain ⟨e,he,rfl⟩:=List.mem_map.1 hz
  obtain ⟨l,_,ho⟩:=HL3.out.entry he
  exact (ho.lt q hq).2)
 have hoth:=Zjn hside hap2
 have HF5:Hid (Lists lo W5 F' (Zc7 f id LF)):=HL3.out.keep fun e he q hq hlt=>by
  obtain ⟨l,_,ho⟩:=HL3.out.entry he
  have hge:=(ho.lt q hq).1
  exact (ho5 q (by omega)).trans (hg4.block q hlt fun e2=>hoth e.2 (List.mem_map.2 ⟨e,he,rfl⟩) q hq e2.symm)
 have HT5:Hid (Lists lo W5 T' (Zc7 t id LT)):=hadd.1
 have HA5:Hid (Zew (F'.map Prod.snd++T'.map Prod.snd)):=Zej hadd.2
 have HB5:Hid (Below B w W5):=HB3.out.trans ((Zg6 hg4 (fun q hq=>by have:=(HSV.out.lt q hq).1;omega) (by omega)).trans (hb5.mono o5))
 have HK5:Hid (∀ i,i<lo→i≠p.f→i≠p.t→W5.heap[i]?=w.heap[i]?):=fun i hi h1 h2=>(ho5 i h2).trans ((k1 i hi).trans (HK3.out i hi h1))
 have hs9:w.heap.size≤W5.heap.size:=by have:=hg4.size;omega
 clear hmi ho5 hb5 hs5 hg4 hown hadd hoth hside hbl
 go_wp2_with fail
 exact bodyPost_end (v:=.tuple #[]) (by simp [results,Tryz.results40,go_sem]) rfl ⟨rfl,_,_,HG5.out,HF5.out,HT5.out,HA5.out,HB5.out,HK5.out,hs9⟩
end
section
open Go.RowKit Go.Shelf
set_option linter.all false
attribute [local go_sem] Oper.semAt_some
theorem Zhn {k:Int} (h1:-9223372036854775808≤k) (h2:k≤9223372036854775807):I64 k:=by
 have a:IntKind.i64.min=-9223372036854775808:=by kernel_rfl
 have b:IntKind.i64.max=9223372036854775807:=by kernel_rfl
 unfold I64 Lit.wf
 simp [a,b]
 omega
theorem Zdz {next:Int}:∀ {ks:List Int} {l:Int},Zav next l ks=true→(∀ x ∈ ks,l≤x∧x<next)∧ks.Pairwise (·≠·)
 | [],l,h=>⟨fun x hx=>by simp at hx,List.Pairwise.nil⟩
 | y::r,l,h=>by
  rw [Zav] at h
  simp only [Bool.and_eq_true,Bool.not_eq_true',decide_eq_false_iff_not] at h
  obtain ⟨h1,h2,h3⟩:=h
  obtain ⟨h4,h5⟩:=Zdz h3
  refine ⟨fun x hx=>?_,List.pairwise_cons.2 ⟨fun x hx=>by have:=h4 x hx;omega,h5⟩⟩
  rcases List.mem_cons.1 hx with rfl | hx
  ·omega
  ·have:=h4 x hx;omega
def Zaj (g:Zy):Bool:=decide ((g.nodes.length:Int)+(g.rels.length:Int)≤65536)&&((Zav g.nn 0 (g.nodes.map Zp.id)&&Zav g.nr 0 (g.rels.map Jj.id))&&(Za4 g.nodes&&((Js g.nodes&&Jo g.rels)&&(Zcj g.rels&&Zev (Zfl g.nodes) g.rels))))
set_option maxRecDepth 100000 in
set_option maxHeartbeats 4000000 in
theorem Zga (g:Zy) (B:Nat) (v:Value) (w:World) (hB:B≤w.heap.size) (hE:Env w) (hg:Zq B w v g) (hz:Zzr g) (hn1:-9223372036854775808≤g.nn∧g.nn≤9223372036854775807) (hn2:-9223372036854775808≤g.nr∧g.nr≤9223372036854775807) (hi2:∀ r ∈ g.rels,I64 r.fr∧I64 r.tt):Calls Tryz.prog 11 #[v] w fun e w'=>e=.returned (.int .i64 (if Zaj g=true then 0 else 2))∧Below w.heap.size w w':=by
 have HE:=Zb hE
 obtain ⟨res,hres⟩:∃ r,Zaj g=r:=⟨_,rfl⟩
 rw [hres]
 obtain ⟨code,hcode⟩:∃ c:Int,(if res=true then 0 else 2)=c:=⟨_,rfl⟩
 rw [hcode]
 have HCD:=Zb hcode
 clear hcode
 unfold Zaj at hres
 have hg0:=hg
 obtain ⟨na,nc,ra,rc,rfl,_,_⟩:=hg0
 have HC0:Hid (∀ W,Below w.heap.size w W→Calls Tryz.prog 93 #[.agg #[.slice na g.nodes.length nc,.slice ra g.rels.length rc,.int .i64 g.nn,.int .i64 g.nr]] W fun e w'=>e=.returned (.bool (decide ((g.nodes.length:Int)+(g.rels.length:Int)≤65536)))∧Below W.heap.size W w'):=fun W hb=>Zzs g B _ W (by have:=hb.size;omega) (HE.out.below hb HE.out.room) (hg.below (hb.mono hB)) hz
 have HC1:Hid (∀ W,Below w.heap.size w W→Calls Tryz.prog 94 #[.agg #[.slice na g.nodes.length nc,.slice ra g.rels.length rc,.int .i64 g.nn,.int .i64 g.nr]] W fun e w'=>e=.returned (.bool ((Zav g.nn 0 (g.nodes.map Zp.id)&&Zav g.nr 0 (g.rels.map Jj.id))))∧Below W.heap.size W w'):=fun W hb=>Zod g B _ W (by have:=hb.size;omega) (hg.below (hb.mono hB)) hn1 hn2
 have HC2:Hid (∀ W,Below w.heap.size w W→Calls Tryz.prog 95 #[.agg #[.slice na g.nodes.length nc,.slice ra g.rels.length rc,.int .i64 g.nn,.int .i64 g.nr]] W fun e w'=>e=.returned (.bool (Za4 g.nodes))∧Below W.heap.size W w'):=fun W hb=>Zqk g B _ W (by have:=hb.size;omega) (HE.out.below hb HE.out.room) (hg.below (hb.mono hB)) hz
 have HC3:Hid (∀ W,Below w.heap.size w W→Calls Tryz.prog 96 #[.agg #[.slice na g.nodes.length nc,.slice ra g.rels.length rc,.int .i64 g.nn,.int .i64 g.nr]] W fun e w'=>e=.returned (.bool ((Js g.nodes&&Jo g.rels)))∧Below W.heap.size W w'):=fun W hb=>Zsj g B _ W (by have:=hb.size;omega) (HE.out.below hb HE.out.room) (hg.below (hb.mono hB)) hz
 have HC4:Hid (∀ W,Below w.heap.size w W→Calls Tryz.prog 97 #[.agg #[.slice na g.nodes.length nc,.slice ra g.rels.length rc,.int .i64 g.nn,.int .i64 g.nr]] W fun e w'=>e=.returned (.bool (Zcj g.rels))∧Below W.heap.size W w'):=fun W hb=>Zsi g B _ W (by have:=hb.size;omega) (HE.out.below hb HE.out.room) (hg.below (hb.mono hB)) hz
 have HC5:Hid ((Zav g.nn 0 (g.nodes.map Zp.id)&&Zav g.nr 0 (g.rels.map Jj.id))=true→∀ W,Below w.heap.size w W→Calls Tryz.prog 98 #[.agg #[.slice na g.nodes.length nc,.slice ra g.rels.length rc,.int .i64 g.nn,.int .i64 g.nr]] W fun e w'=>e=.returned (.bool (Zev (Zfl g.nodes) g.rels))∧Below W.heap.size W w'):=fun hk W hb=>by
  have hk1:=Zdz (Bool.and_eq_true_iff.1 hk).1
  exact Zwc g B _ W (by have:=hb.size;omega) (hg.below (hb.mono hB)) hk1.2 (fun n hn=>by
   have:=hk1.1 n.id (List.mem_map_of_mem hn)
   exact Zhn (by omega) (by omega)) hi2
 obtain ⟨b0,hb0⟩:∃ b,decide ((g.nodes.length:Int)+(g.rels.length:Int)≤65536)=b:=⟨_,rfl⟩
 obtain ⟨b1,hb1⟩:∃ b,(Zav g.nn 0 (g.nodes.map Zp.id)&&Zav g.nr 0 (g.rels.map Jj.id))=b:=⟨_,rfl⟩
 obtain ⟨b2,hb2⟩:∃ b,Za4 g.nodes=b:=⟨_,rfl⟩
 obtain ⟨b3,hb3⟩:∃ b,(Js g.nodes&&Jo g.rels)=b:=⟨_,rfl⟩
 obtain ⟨b4,hb4⟩:∃ b,Zcj g.rels=b:=⟨_,rfl⟩
 obtain ⟨b5,hb5⟩:∃ b,Zev (Zfl g.nodes) g.rels=b:=⟨_,rfl⟩
 rw [hb0] at HC0
 rw [hb1] at HC1
 rw [hb2] at HC2
 rw [hb3] at HC3
 rw [hb4] at HC4
 rw [hb1,hb5] at HC5
 rw [hb0,hb1,hb2,hb3,hb4,hb5] at hres
 have HR:=Zb hres
 clear hb0 hb1 hb2 hb3 hb4 hb5 hres hg hz hn1 hn2 hi2
 obtain ⟨ns,rs,nn,nr⟩:=g
 simp only at HC0 HC1 HC2 HC3 HC4 HC5 ⊢
 generalize ns.length=n at *
 generalize rs.length=m at *
 go_enter Tryz.func11,Tryz.ntmps11
 go_upto_region 1 with fail
 generalize hW1:World.alloc _ _=W1
 have hr1:=Zl w #[.slice na n nc,.slice ra m rc,.int .i64 nn,.int .i64 nr] 25
 rw [hW1] at hr1
 have HB1:Hid (Below w.heap.size w W1):=by rw [← hW1];exact (Below.refl _ _).alloc (Nat.le_refl _) _
 have HR1:=Zb hr1
 clear hW1 hr1
 go_wp2_with fail
 refine (Zsk _).mono ?_
 rintro e w2 ⟨rfl,hb2,ht2⟩
 have HC2w:=Zb hb2
 have HT:=Zb ht2
 obtain ⟨p,hp⟩:∃ p,W1.heap.size=p:=⟨_,rfl⟩
 have hpl:p<w2.heap.size:=by
  rw [← hp]
  exact Zab (ht2 0 _ rfl)
 rw [hp] at HT ⊢
 clear hb2 ht2 hp
 go_wp2_with fail
 go_loopw [7] (fun x wr=>∃ q:Nat,q≤6∧x=.int .i64 q∧Below w2.heap.size w2 wr∧(([b0,b1,b2,b3,b4,b5].drop q).all id)=res∧(2≤q→b1=true)) (fun x _=>6 - (intOf x).toNat)
 case atStart=>exact ⟨0,by omega,rfl,Below.refl _ _,by rw [← HR.out];simp,fun h=>by omega⟩
 case round =>
  obtain ⟨q,hq,rfl,hb,hrs,hq2⟩:=hrel
  have HB:=Zb hb
  have HRS:=Zb hrs
  have HQ2:=Zb hq2
  have HBW:=Zb (Za HB1.out (Za HC2w.out hb))
  have hrec:=HR1.out.below (Za HC2w.out hb) HR1.out.lt
  have a0:=hrec.cell 0 rfl
  have a1:=hrec.cell 1 rfl
  have a2:=hrec.cell 2 rfl
  have a3:=hrec.cell 3 rfl
  clear hb hrs hq2 hrec
  have hcs:q=0∨q=1∨q=2∨q=3∨q=4∨q=5∨q=6:=by omega
  rcases hcs with rfl | rfl | rfl | rfl | rfl | rfl | rfl
  ·have k0:=Jw HB.out (Nat.le_refl _) (HT.out 0 _ rfl)
   have HCX:=Zb (HC0.out wr HBW.out)
   go_wp2_with fail
   refine HCX.out.mono ?_
   rintro e w3 ⟨rfl,hb3⟩
   have HB3:=Zb (Za HB.out hb3)
   have HBW3:=Zb (Za HBW.out hb3)
   clear hb3 a0 a1 a2 a3 k0 HCX
   cases b0 with
   | false =>
    have HF:Hid (code=2):=by
     show _=_
     have e:res=false:=by rw [← HRS.out];rfl
     rw [← HCD.out,e];rfl
    go_wp2_with fail
    go_ret
    exact ⟨by rw [HF.out];rfl,HBW3.out⟩
   | true =>
    have HN2:=Zb HRS.out
    go_wp2_with fail
    go_roundw
    case rel=>exact ⟨1,by omega,rfl,HB3.out,HN2.out,fun h=>by omega⟩
    case measure=>simp [intOf]
  ·have k0:=Jw HB.out (Nat.le_refl _) (HT.out 1 _ rfl)
   have HCX:=Zb (HC1.out wr HBW.out)
   go_wp2_with fail
   refine HCX.out.mono ?_
   rintro e w3 ⟨rfl,hb3⟩
   have HB3:=Zb (Za HB.out hb3)
   have HBW3:=Zb (Za HBW.out hb3)
   clear hb3 a0 a1 a2 a3 k0 HCX
   cases b1 with
   | false =>
    have HF:Hid (code=2):=by
     show _=_
     have e:res=false:=by rw [← HRS.out];rfl
     rw [← HCD.out,e];rfl
    go_wp2_with fail
    go_ret
    exact ⟨by rw [HF.out];rfl,HBW3.out⟩
   | true =>
    have HN2:=Zb HRS.out
    go_wp2_with fail
    go_roundw
    case rel=>exact ⟨2,by omega,rfl,HB3.out,HN2.out,fun h=>trivial⟩
    case measure=>simp [intOf]
  ·have k0:=Jw HB.out (Nat.le_refl _) (HT.out 2 _ rfl)
   have HCX:=Zb (HC2.out wr HBW.out)
   go_wp2_with fail
   refine HCX.out.mono ?_
   rintro e w3 ⟨rfl,hb3⟩
   have HB3:=Zb (Za HB.out hb3)
   have HBW3:=Zb (Za HBW.out hb3)
   clear hb3 a0 a1 a2 a3 k0 HCX
   cases b2 with
   | false =>
    have HF:Hid (code=2):=by
     show _=_
     have e:res=false:=by rw [← HRS.out];rfl
     rw [← HCD.out,e];rfl
    go_wp2_with fail
    go_ret
    exact ⟨by rw [HF.out];rfl,HBW3.out⟩
   | true =>
    have HN2:=Zb HRS.out
    go_wp2_with fail
    go_roundw
    case rel=>exact ⟨3,by omega,rfl,HB3.out,HN2.out,fun h=>HQ2.out (by omega)⟩
    case measure=>simp [intOf]
  ·have k0:=Jw HB.out (Nat.le_refl _) (HT.out 3 _ rfl)
   have HCX:=Zb (HC3.out wr HBW.out)
   go_wp2_with fail
   refine HCX.out.mono ?_
   rintro e w3 ⟨rfl,hb3⟩
   have HB3:=Zb (Za HB.out hb3)
   have HBW3:=Zb (Za HBW.out hb3)
   clear hb3 a0 a1 a2 a3 k0 HCX
   cases b3 with
   | false =>
    have HF:Hid (code=2):=by
     show _=_
     have e:res=false:=by rw [← HRS.out];rfl
     rw [← HCD.out,e];rfl
    go_wp2_with fail
    go_ret
    exact ⟨by rw [HF.out];rfl,HBW3.out⟩
   | true =>
    have HN2:=Zb HRS.out
    go_wp2_with fail
    go_roundw
    case rel=>exact ⟨4,by omega,rfl,HB3.out,HN2.out,fun h=>HQ2.out (by omega)⟩
    case measure=>simp [intOf]
  ·have k0:=Jw HB.out (Nat.le_refl _) (HT.out 4 _ rfl)
   have HCX:=Zb (HC4.out wr HBW.out)
   go_wp2_with fail
   refine HCX.out.mono ?_
   rintro e w3 ⟨rfl,hb3⟩
   have HB3:=Zb (Za HB.out hb3)
   have HBW3:=Zb (Za HBW.out hb3)
   clear hb3 a0 a1 a2 a3 k0 HCX
   cases b4 with
   | false =>
    have HF:Hid (code=2):=by
     show _=_
     have e:res=false:=by rw [← HRS.out];rfl
     rw [← HCD.out,e];rfl
    go_wp2_with fail
    go_ret
    exact ⟨by rw [HF.out];rfl,HBW3.out⟩
   | true =>
    have HN2:=Zb HRS.out
    go_wp2_with fail
    go_roundw
    case rel=>exact ⟨5,by omega,rfl,HB3.out,HN2.out,fun h=>HQ2.out (by omega)⟩
    case measure=>simp [intOf]
  ·have k0:=Jw HB.out (Nat.le_refl _) (HT.out 5 _ rfl)
   have HCX:=Zb (HC5.out (HQ2.out (by omega)) wr HBW.out)
   go_wp2_with fail
   refine HCX.out.mono ?_
   rintro e w3 ⟨rfl,hb3⟩
   have HB3:=Zb (Za HB.out hb3)
   have HBW3:=Zb (Za HBW.out hb3)
   clear hb3 a0 a1 a2 a3 k0 HCX
   cases b5 with
   | false =>
    have HF:Hid (code=2):=by
     show _=_
     have e:res=false:=by rw [← HRS.out];rfl
     rw [← HCD.out,e];rfl
    go_wp2_with fail
    go_ret
    exact ⟨by rw [HF.out];rfl,HBW3.out⟩
   | true =>
    have HN2:=Zb HRS.out
    go_wp2_with fail
    go_roundw
    case rel=>exact ⟨6,by omega,rfl,HB3.out,HN2.out,fun h=>HQ2.out (by omega)⟩
    case measure=>simp [intOf]
  ·have HF:Hid (code=0):=by
    show _=_
    have e:res=true:=by rw [← HRS.out];rfl
    rw [← HCD.out,e];rfl
   go_wp2_with fail
   go_ret
   exact ⟨by rw [HF.out];rfl,HBW.out⟩
end
section
open Go.RowKit Go.Shelf
set_option linter.all false
attribute [local go_sem] Oper.semAt_some
def Zzu (rs:List Jj):List (Int × List Int):=rs.foldl (fun L r=>Zc7 r.fr r.id L) []
def Zzv (rs:List Jj):List (Int × List Int):=rs.foldl (fun L r=>Zc7 r.tt r.id L) []
theorem Zss {rs:List Jj} {j:Nat} {r:Jj} (h:rs[j]?=some r):Zzu (rs.take (j+1))=Zc7 r.fr r.id (Zzu (rs.take j)):=by
 unfold Zzu;rw [List.take_add_one,h];simp [List.foldl_append]
theorem Zst {rs:List Jj} {j:Nat} {r:Jj} (h:rs[j]?=some r):Zzv (rs.take (j+1))=Zc7 r.tt r.id (Zzv (rs.take j)):=by
 unfold Zzv;rw [List.take_add_one,h];simp [List.foldl_append]
theorem Zj7 (key:Jj→Int):∀ (rs:List Jj) (L:List (Int × List Int)),(L.map Prod.fst).Nodup→((rs.foldl (fun L r=>Zc7 (key r) r.id L) L).map Prod.fst).Nodup
 | [],L,h=>h
 | r::rs,L,h=>Zj7 key rs _ (Zqq h)
theorem Znd (key:Jj→Int):∀ (rs:List Jj) (L:List (Int × List Int)) (n:Nat),(∀ q ∈ L,q.2.length≤n)→∀ q ∈ rs.foldl (fun L r=>Zc7 (key r) r.id L) L,q.2.length≤n+rs.length
 | [],L,n,h,q,hq=>h q hq
 | r::rs,L,n,h,q,hq=>by
  have:=Znd key rs _ (n+1) (Zlu h) q hq
  simp only [List.length_cons]
  omega
theorem Zwn (rs:List Jj):∀ q ∈ Zzu rs,q.2.length≤rs.length:=fun q hq=>by
 have:=Znd Jj.fr rs [] 0 (fun q h=>by simp at h) q hq
 omega
theorem Zwo (rs:List Jj):∀ q ∈ Zzv rs,q.2.length≤rs.length:=fun q hq=>by
 have:=Znd Jj.tt rs [] 0 (fun q h=>by simp at h) q hq
 omega
structure Holds (b0:Nat) (g:Zy) (p:GP) (B lo:Nat) (N R F T:List (Int × Value)) (w:World):Prop where
 low:b0≤B
 ok:p.Ok B
 lob:B≤lo∧lo≤w.heap.size∧p.g<lo∧p.n<lo∧p.r<lo∧p.f<lo∧p.t<lo
 gs:GS w p g.nn g.nr N R F T
 nodes:Zef B w N g.nodes
 rels:Zk3 B w R g.rels
 fr:Lists lo w F (Zzu g.rels)
 tt:Lists lo w T (Zzv g.rels)
 ap:Zew (F.map Prod.snd++T.map Prod.snd)
def Jf1 (b0:Nat) (g:Zy) (p:GP) (w:World):Prop:=∃ B lo N R F T,Holds b0 g p B lo N R F T w
inductive Zsu (g:Zy) (w:World):Ending→World→Prop
 | no {w'} (hc:Zaj g=false) (hb:Below w.heap.size w w'):Zsu g w (.returned (.tuple #[.pointer none,.int .i64 2])) w'
 | yes {w'} (hc:Zaj g=true) (p:GP) (hm:Jf1 w.heap.size g p w') (hb:Below w.heap.size w w'):Zsu g w (.returned (.tuple #[p.val,.int .i64 0])) w'
structure MkJ (w:World) (cs:Array Value) (nn nr:Int) (ns:List Zp) (rs done:List Jj) (p:GP) (B lo:Nat) (wr:World):Prop where
 box:Rec wr w.heap.size cs 25
 sz:w.heap.size<B
 keep:Below w.heap.size w wr
 hold:∃ N R F T,(w.heap.size≤B∧p.Ok B∧(B≤lo∧lo≤wr.heap.size∧p.g<lo∧p.n<lo∧p.r<lo∧p.f<lo∧p.t<lo))∧GS wr p nn nr N R F T∧Zef B wr N ns∧Zk3 B wr R rs∧Lists lo wr F (Zzu done)∧Lists lo wr T (Zzv done)∧Zew (F.map Prod.snd++T.map Prod.snd)
theorem MkJ.below {w:World} {cs:Array Value} {nn nr:Int} {ns:List Zp} {rs done:List Jj} {p:GP} {B lo:Nat} {wr wz:World} (h:MkJ w cs nn nr ns rs done p B lo wr) (hb:Below wr.heap.size wr wz):MkJ w cs nn nr ns rs done p B lo wz:=by
 obtain ⟨N,R,F,T,⟨h1,h2,h3⟩,h4,h5,h6,h7,h8,h9⟩:=h.hold
 have hs:=hb.size
 exact ⟨h.box.below hb h.box.lt,h.sz,Za h.keep hb,N,R,F,T,⟨h1,h2,h3.1,by omega,h3.2.2⟩,h4.below hb,h5.below (hb.mono (by omega)),h6.below (hb.mono (by omega)),h7.below hb,h8.below hb,h9⟩
theorem MkJ.out {w:World} {cs:Array Value} {nn nr:Int} {ns:List Zp} {rs:List Jj} {p:GP} {B lo:Nat} {wr:World} (h:MkJ w cs nn nr ns rs rs p B lo wr):Jf1 w.heap.size ⟨ns,rs,nn,nr⟩ p wr:=by
 obtain ⟨N,R,F,T,⟨h1,h2,h3⟩,h4,h5,h6,h7,h8,h9⟩:=h.hold
 exact ⟨B,lo,N,R,F,T,h1,h2,h3,h4,h5,h6,h7,h8,h9⟩
set_option maxRecDepth 100000 in
set_option maxHeartbeats 8000000 in
theorem Zwp (g:Zy) (B:Nat) (v:Value) (w:World) (hB:B≤w.heap.size) (hE:Env w) (hg:Zq B w v g) (hz:Zzr g) (hn1:-9223372036854775808≤g.nn∧g.nn≤9223372036854775807) (hn2:-9223372036854775808≤g.nr∧g.nr≤9223372036854775807) (hi2:∀ r ∈ g.rels,I64 r.fr∧I64 r.tt)
  (ht:∀ x ∈ g.nodes,x.labels.length≤2000000∧x.props.length≤2000000∧∀ q ∈ x.props,q.2.total≤2000000) (hu:∀ x ∈ g.rels,x.props.length≤2000000∧∀ q ∈ x.props,q.2.total≤2000000) :
  Calls Tryz.prog 13 #[v] w (Zsu g w):=by
 have hm3:∀ W:World,(Instr.makeMap 72 none).run Tryz.prog W=.ok (.map (some W.heap.size)) (W.alloc (.map #[] 0)):=fun W=>rfl
 obtain ⟨ok,hok⟩:∃ b,Zaj g=b:=⟨_,rfl⟩
 have HOK:=Zb hok
 have HC:=Zb (fun W (hb:Below w.heap.size w W)=>Zga g B v W (Nat.le_trans hB hb.size) (hE.below hb hE.room) (hg.below (hb.mono hB)) hz hn1 hn2 hi2)
 rw [hok] at HC
 have HY:=Zb (fun W (hb:Below w.heap.size w W)=>Zfp g v B W (Nat.le_trans hB hb.size) (hg.below (hb.mono hB)) hz.nodes hz.rels ht hu)
 have HTY:=Zb hg.types
 have hid:ok=true→((g.nodes.map Zp.id).Nodup∧(∀ n ∈ g.nodes,I64 n.id))∧(g.rels.map Jj.id).Nodup∧∀ r ∈ g.rels,I64 r.id:=fun e=>by
  rw [← hok] at e
  unfold Zaj at e
  simp only [Bool.and_eq_true] at e
  have h1:=Zdz e.2.1.1
  have h2:=Zdz e.2.1.2
  refine ⟨⟨h1.2,fun n hn=>?_⟩,h2.2,fun r hr=>?_⟩
  ·have:=h1.1 _ (List.mem_map.2 ⟨n,hn,rfl⟩);exact Zhn (by omega) (by omega)
  ·have:=h2.1 _ (List.mem_map.2 ⟨r,hr,rfl⟩);exact Zhn (by omega) (by omega)
 have HID:=Zb hid
 have HI2:=Zb hi2
 have hml:=hz.rels
 obtain ⟨na,nc,ra,rc,rfl,hn,hr⟩:=hg
 obtain ⟨ns,rs,nn,nr⟩:=g
 simp only at hr HC HY HTY HI2 hml
 clear hn hok hE hz hn1 hn2 hi2 ht hu hid
 obtain ⟨a',c',e2,r1,r2,hq3⟩:=hr
 obtain ⟨rfl,rfl⟩:ra=a'∧rc=c':=by injection e2 with e1 _ e2;exact ⟨e1,e2⟩
 have HQ:=Zb hq3
 obtain ⟨n,hn⟩:∃ n,ns.length=n:=⟨_,rfl⟩
 obtain ⟨m,hm⟩:∃ m,rs.length=m:=⟨_,rfl⟩
 have HM:=Zb hm
 rw [hm] at r1 hml
 rw [hn,hm] at HC HY
 simp only [hn,hm]
 clear hq3 hn hm e2
 go_enter Tryz.func13,Tryz.ntmps13
 go_upto_region 1 with fail
 generalize hW1:World.alloc _ _=W1
 have HB1:Hid (Below w.heap.size w W1):=by rw [← hW1];exact (Below.refl _ _).alloc (Nat.le_refl _) _
 have HR1:Hid (Rec W1 w.heap.size #[.slice na n nc,.slice ra m rc,.int .i64 nn,.int .i64 nr] 25):=by rw [← hW1];exact Zl _ _ _
 clear hW1
 have a0:=HR1.out.cell 0 rfl
 have a1:=HR1.out.cell 1 rfl
 have a2:=HR1.out.cell 2 rfl
 have a3:=HR1.out.cell 3 rfl
 go_wp2_with fail
 refine (HC.out W1 HB1.out).mono ?_
 rintro e w2 ⟨rfl,hb2⟩
 have HB2:=Zb (Za HB1.out hb2)
 have HR2:=Zb (HR1.out.below hb2 HR1.out.lt)
 clear hb2 a0 a1 a2 a3
 cases ok with
 | false =>
  go_wp2_with fail
  go_ret2
  exact .no HOK.out HB2.out
 | true =>
  obtain ⟨⟨d1,d2⟩,d3,d4⟩:=HID.out rfl
  have HD1:=Zb d1
  have HD2:=Zb d2
  have HD3:=Zb d3
  have HD4:=Zb d4
  clear d1 d2 d3 d4
  have a0:=HR2.out.cell 0 rfl
  have a1:=HR2.out.cell 1 rfl
  have a2:=HR2.out.cell 2 rfl
  have a3:=HR2.out.cell 3 rfl
  go_wp2_with fail
  refine (HY.out w2 HB2.out).mono ?_
  rintro e w3 ⟨v3,rfl,hgf,hb3⟩
  have HB3:=Zb (Za HB2.out hb3)
  have HR3:=Zb (HR2.out.below hb3 HR2.out.lt)
  have HL3:=Zb (hgf.lie HTY.out)
  clear hb3 a0 a1 a2 a3 hgf
  have hvs:∃ x0 x1,v3=.agg #[x0,x1,.int .i64 nn,.int .i64 nr]:=by
   obtain ⟨a,b,c,d,e,_⟩:=HL3.out
   exact ⟨_,_,e⟩
  obtain ⟨x0,x1,rfl⟩:=hvs
  go_wp2_with fail
  refine (Zip ⟨ns,rs,nn,nr⟩ w3.heap.size _ w3 (Nat.le_refl _) HL3.out HD1.out HD3.out HD2.out HD4.out).mono ?_
  rintro e w4 ⟨rfl,hb4,hpt⟩
  have HB4:=Zb (Za HB3.out hb4)
  have HR4:=Zb (HR3.out.below hb4 HR3.out.lt)
  have HPT:=Zb hpt
  have hs3:w.heap.size<w3.heap.size:=HR3.out.lt
  have hs4:w3.heap.size+4≤w4.heap.size:=by
   obtain ⟨N,R,_,hr,_⟩:=hpt
   have:=hr.lt
   omega
  clear hb4 hpt HL3
  go_upto_region 5 with fail
  generalize hW5:World.alloc _ _=W5
  have hj:MkJ w #[.slice na n nc,.slice ra m rc,.int .i64 nn,.int .i64 nr] nn nr ns rs [] ⟨w4.heap.size+1+1,w3.heap.size+2,w3.heap.size+2+1,w4.heap.size,w4.heap.size+1⟩ w3.heap.size (w4.heap.size+1+1+1) W5:=by
   obtain ⟨N,R,hm1,hm2,hne,hre⟩:=HPT.out
   have hbw:Below w4.heap.size w4 W5:=by rw [← hW5];exact (((Below.refl _ _).alloc (Nat.le_refl _) _).alloc (by simp) _).alloc (by simp;omega) _
   refine ⟨HR4.out.below hbw HR4.out.lt,hs3,Za HB4.out hbw,N,R,[],[],⟨Nat.le_of_lt hs3,⟨by simp only;omega,by simp only;omega,by simp only;omega,by simp only;omega,by simp only;omega,by simp only;omega,by simp only;omega,by simp only;omega,by simp only;omega,by simp only;omega,by simp only;omega,by simp only;omega,by simp only;omega,by simp only;omega,by simp only;omega⟩,?_⟩,?_,hne.below (hbw.mono (by omega)),hre.below (hbw.mono (by omega)),Zjc _ _,Zjc _ _,List.Pairwise.nil⟩
   ·refine ⟨by omega,?_,by simp only;omega,by simp only;omega,by simp only;omega,by simp only;omega,by simp only;omega⟩
    rw [← hW5];simp
   ·rw [← hW5]
    refine ⟨?_,?_,?_,?_,?_⟩
    ·have h:=Zl ((w4.alloc (.map #[] 0)).alloc (.map #[] 0)) #[.map (some (w3.heap.size+2)),.map (some (w3.heap.size+2+1)),.int .i64 nn,.int .i64 nr,.map (some w4.heap.size),.map (some (w4.heap.size+1))] 74
     rw [World.size_alloc,World.size_alloc] at h
     exact h
    ·exact hm1.block (by rw [Below.heap_alloc _ _ _ (by simp;omega),Below.heap_alloc _ _ _ (by simp;omega),Below.heap_alloc _ _ _ (by omega)])
    ·exact hm2.block (by rw [Below.heap_alloc _ _ _ (by simp;omega),Below.heap_alloc _ _ _ (by simp;omega),Below.heap_alloc _ _ _ (by omega)])
    ·exact (Ziq w4).block (by rw [Below.heap_alloc _ _ _ (by simp only [World.size_alloc];omega),Below.heap_alloc _ _ _ (by simp only [World.size_alloc];omega)])
    ·have h:=Ziq (w4.alloc (.map #[] 0))
     rw [World.size_alloc] at h
     exact h.block (by rw [Below.heap_alloc _ _ _ (by simp only [World.size_alloc];omega)])
  have HJ:=Zb hj
  have a1:=hj.box.cell 1 rfl
  clear hW5 hj HPT HR4 HB4 hs4 hm3
  obtain ⟨P,hP⟩:∃ P:GP,(⟨w4.heap.size+1+1,w3.heap.size+2,w3.heap.size+2+1,w4.heap.size,w4.heap.size+1⟩:GP)=P:=⟨_,rfl⟩
  have HPV:Hid (P.g=w4.heap.size+1+1):=by rw [← hP];rfl
  rw [hP] at HJ
  clear hP
  obtain ⟨X,hX⟩:∃ X,w4.heap.size+1+1=X:=⟨_,rfl⟩
  rw [hX] at HPV ⊢
  rw [hX] at HJ
  obtain ⟨lo,hlo⟩:∃ l,X+1=l:=⟨_,rfl⟩
  rw [hlo] at HJ
  clear hX hlo
  have HVL:Hid (P.val=.pointer (some ⟨X,0,none⟩)):=by show _=_;unfold GP.val;rw [HPV.out]
  clear HPV
  obtain ⟨B3,hB3⟩:∃ b,w3.heap.size=b:=⟨_,rfl⟩
  rw [hB3] at HJ
  clear hs3 HR3 HB3 hB3
  go_wp2_with fail
  clear a1
  go_loopw [23] (fun i wr=>∃ j:Nat,j≤m∧i=.int .i64 j∧MkJ w #[.slice na n nc,.slice ra m rc,.int .i64 nn,.int .i64 nr] nn nr ns rs (rs.take j) P B3 lo wr) (fun i _=>m - (intOf i).toNat)
  case atStart=>exact ⟨0,Nat.zero_le _,rfl,HJ.out⟩
  case round =>
   obtain ⟨j,hj,rfl,hjr⟩:=hrel
   have HJR:=Zb hjr
   clear hjr HJ
   by_cases hlt:j<m
   ·have hlt':(j:Int)<m:=by omega
    obtain ⟨x,hx⟩:∃ q,rs[j]?=some q:=⟨_,List.getElem?_eq_getElem (by have:=HM.out;omega)⟩
    obtain ⟨bl,off,rfl,hbl,hc⟩:=HQ.out.resolve_left (by intro e;rw [e] at hx;simp at hx)
    obtain ⟨pv,⟨c0,c1,c2,c3,c4⟩,_,hp⟩:=(hc j _ hx).below (HJR.out.keep.mono hB) hbl
    obtain ⟨pa,pc,rfl,_,_,_⟩:=hp
    have hif:=HI2.out _ (List.mem_of_getElem? hx)
    have HAF:=Zb (Zss hx)
    have HAT:=Zb (Zst hx)
    clear hc hx
    obtain ⟨xi,fr,tt,ty,xp⟩:=x
    simp only at c0 c1 c2 c3 c4 hif HAF HAT
    go_upto_region 8 with fail
    generalize hW2:World.alloc _ _=W2
    have hr2:=Zl wr #[.int .i64 xi,.int .i64 fr,.int .i64 tt,.string ty,.slice pa xp.length pc] 49
    rw [hW2] at hr2
    have HB2:Hid (Below wr.heap.size wr W2):=by rw [← hW2];exact (Below.refl _ _).alloc (Nat.le_refl _) _
    have k0:=hr2.cell 0 rfl
    have k1:=hr2.cell 1 rfl
    have k2:=hr2.cell 2 rfl
    have k3:=hr2.cell 3 rfl
    have k4:=hr2.cell 4 rfl
    have HJ2:=Zb (HJR.out.below HB2.out)
    clear hW2 hr2 c0 c1 c2 c3 c4
    obtain ⟨N,R,F,T,⟨g1,g2,g3⟩,g4,g5,g6,g7,g8,g9⟩:=HJ2.out.hold
    have hl1:∀ q ∈ Zzu (rs.take j),q.2.length≤3000000:=fun q hq=>by have:=Zwn _ q hq;rw [List.length_take] at this;omega
    have hl2:∀ q ∈ Zzv (rs.take j),q.2.length≤3000000:=fun q hq=>by have:=Zwo _ q hq;rw [List.length_take] at this;omega
    have hc:=Zq9 g4 B3 lo g2 g3 _ _ g7 g8 (Zj7 Jj.fr _ [] List.nodup_nil) (Zj7 Jj.tt _ [] List.nodup_nil) g9 hl1 hl2 xi fr tt ty pa xp.length pc hif.1 hif.2
    rw [HVL.out] at hc
    have HC2:=Zb hc
    have HG5:=Zb g5
    have HG6:=Zb g6
    clear hc g4 g5 g6 g7 g8 g9 hl1 hl2
    go_wp2_with fail
    refine HC2.out.mono ?_
    rintro e w6 ⟨rfl,F',T',q1,q2,q3,q4,q5,q6,q7⟩
    have HJ6:Hid (MkJ w #[.slice na n nc,.slice (some ⟨bl,off,none⟩) m rc,.int .i64 nn,.int .i64 nr] nn nr ns rs (rs.take (j+1)) P B3 lo w6) :=
     ⟨HJ2.out.box.below q5 HJ2.out.sz,HJ2.out.sz,HJ2.out.keep.trans (q5.mono g1),N,R,F',T',⟨g1,g2,g3.1,by omega,g3.2.2⟩,q1,HG5.out.below q5,HG6.out.below q5,by rw [HAF.out];exact q2,by rw [HAT.out];exact q3,q4⟩
    clear q1 q2 q3 q4 q5 q6 q7 g1 g2 g3 k0 k1 k2 k3 k4
    go_wp2_with fail
    go_roundw
    case rel=>exact ⟨j+1,by omega,by go_num,HJ6.out⟩
    case measure=>simp [intOf];omega
   ·have hlt':¬ (j:Int)<m:=by omega
    have HJA:Hid (MkJ w #[.slice na n nc,.slice ra m rc,.int .i64 nn,.int .i64 nr] nn nr ns rs rs P B3 lo wr):=by
     have:=HJR.out
     rwa [List.take_of_length_le (by have:=HM.out;omega)] at this
    go_wp2_with fail
    go_ret2
    rw [← HVL.out]
    exact .yes HOK.out P HJA.out.out HJA.out.keep
end
