/- GraphChecks: the law's own walk. A value, and a list of values, that is handed in: where it lies, as a tree. Properties, and a step of a script, that are handed in. -/
import Derived.Test.YteddjlbfbpecjaaGreatDoorJoin2
import Derived.Test.YteddjlbfbpecjaaGreatDoorJoin7
import Derived.Test.YteddjlbfbpecjaaGreatDoorJoin32
import Derived.Test.YteddjlbfbpecjaaGreatDoorJoin33
import Derived.Test.YteddjlbfbpecjaaGreatDoorJoin34
import Derived.Test.YteddjlbfbpecjaaGreatDoorJoin35
import Derived.Test.YteddjlbfbpecjaaGreatDoorJoin17
import Derived.OpenShut
import Derived.SizedLaws
import Derived.ProofKit
import Derived.SliceStrings
import Derived.Deep.Slices
import Derived.Test.YteddjlbfbpecjaaGreatDoorJoin3
import Derived.Deep.Cut
namespace Go.Proofs.YteddjlbfbpecjaaGreatDoor
open Go.RowKit Go.Shelf
set_option linter.unusedVariables false
set_option linter.unusedSimpArgs false
attribute [local go_sem] Oper.semAt_some
structure Fit (g:GraphP):Prop where
 bulk:Bulk g
 sized:Sized g
 mild:Mild g
 sane:Sanely g
 nn:-9223372036854775808≤g.nn∧g.nn≤9223372036854775807
 nr:-9223372036854775808≤g.nr∧g.nr≤9223372036854775807
 ends:∀ r ∈ g.rels,I64 r.fr∧I64 r.tt
 ofN:∀ x ∈ g.nodes,x.labels.length≤2000000∧x.props.length≤2000000∧∀ q ∈ x.props,q.2.total≤2000000
 ofR:∀ x ∈ g.rels,x.props.length≤2000000∧∀ q ∈ x.props,q.2.total≤2000000
theorem Fit.modN {g:GraphP} (h:Fit g):∀ n ∈ g.nodes,∀ x ∈ n.props,Modest x.2:=fun n hn x hx=>((h.mild.ofNode n hn).2 x hx).2
theorem Fit.modR {g:GraphP} (h:Fit g):∀ n ∈ g.rels,∀ x ∈ n.props,Modest x.2:=fun n hn x hx=>((h.mild.ofRel n hn).2 x hx).2
set_option maxRecDepth 100000 in
set_option maxHeartbeats 16000000 in
theorem checks_law (g o:GraphP) (B:Nat) (v u:Value) (w:World) (hB:B≤w.heap.size) (hE:Env w) (hg:GraphLies B w v g) (ho:GraphLies B w u o) (fg:Fit g) (fo:Fit o) :
  Calls Tryz.prog 3 #[v,u] w fun e w'=>e=.returned (.bool true)∧Below w.heap.size w w':=by
 have HG:=hidE (fun W (hb:Below w.heap.size w W)=>(hg.below (hb.mono hB)))
 have HO:=hidE (fun W (hb:Below w.heap.size w W)=>(ho.below (hb.mono hB)))
 have HE:=hidE (fun W (hb:Below w.heap.size w W)=>hE.below hb hE.room)
 have HV1:=hidE (fun W (hb:Below w.heap.size w W)=>vast_any g B v W (Nat.le_trans hB hb.size) (HG.out W hb) fg.bulk)
 have HV2:=hidE (fun W (hb:Below w.heap.size w W)=>vast_any o B u W (Nat.le_trans hB hb.size) (HO.out W hb) fo.bulk)
 have HK:=hidE (fun W (hb:Below w.heap.size w W)=>known_any W (HE.out W hb))
 have HC:=hidE (fun W (hb:Below w.heap.size w W)=>checkP_any g B v W (Nat.le_trans hB hb.size) (HE.out W hb) (HG.out W hb) fg.mild fg.nn fg.nr fg.ends)
 have HY:=hidE (fun W (hb:Below w.heap.size w W)=>copyG_any g v B W (Nat.le_trans hB hb.size) (HG.out W hb) fg.mild.nodes fg.mild.rels fg.ofN fg.ofR)
 have HM:=hidE (fun W (hb:Below w.heap.size w W)=>make_any g B v W (Nat.le_trans hB hb.size) (HE.out W hb) (HG.out W hb) fg.mild fg.nn fg.nr fg.ends fg.ofN fg.ofR)
 have HRC:=hidE (fun W (hb:Below w.heap.size w W)=>rcheckG_any g B v W (Nat.le_trans hB hb.size) (HG.out W hb) fg.sized)
 have HSG:=hidE (fun W (hb:Below w.heap.size w W)=>sameG_any g o B v u W (Nat.le_trans hB hb.size) (HE.out W hb).tabs (HG.out W hb) (HO.out W hb) fg.modN fg.modR fo.modN fo.modR)
 have HRS:=hidE (fun W (hb:Below w.heap.size w W)=>rsame_any g o B v u W (Nat.le_trans hB hb.size) (HG.out W hb) (HO.out W hb))
 have HFN:=hidE (fun W (hb:Below w.heap.size w W)=>fine_any g B v W (Nat.le_trans hB hb.size) (HG.out W hb) fg.sane)
 have HTY:=hidE hg.types
 have HFG:=hidE fg
 obtain ⟨ok,hok⟩:∃ b,checkPB g=b:=⟨_,rfl⟩
 have HOK:=hidE hok
 have hok2:=hok
 rw [check_same] at hok2
 rw [hok] at HC
 rw [hok2] at HRC
 obtain ⟨fn,hfn⟩:∃ b,fineB g=b:=⟨_,rfl⟩
 obtain ⟨sg,hsg⟩:∃ b,sameGraphB g o=b:=⟨_,rfl⟩
 rw [sameG_eq,hsg,hfn] at HSG
 rw [hsg] at HRS
 rw [hfn] at HFN
 have HFE:=hidE hfn
 obtain ⟨b1,hb1⟩:∃ b,vastB g=b:=⟨_,rfl⟩
 obtain ⟨b2,hb2⟩:∃ b,vastB o=b:=⟨_,rfl⟩
 rw [hb1] at HV1
 rw [hb2] at HV2
 obtain ⟨na,nc,ra,rc,rfl,hq1,hq2⟩:=hg
 obtain ⟨na2,nc2,ra2,rc2,rfl,hq3,hq4⟩:=ho
 clear hq1 hq2 hq3 hq4 hok hok2 hfn hsg hb1 hb2 fg fo
 generalize hnl:g.nodes.length=nl at HV1 HC HY HM HRC HSG HRS HFN HG ⊢
 generalize hrl:g.rels.length=rl at HV1 HC HY HM HRC HSG HRS HFN HG ⊢
 generalize hnl2:o.nodes.length=nl2 at HV2 HSG HRS HO ⊢
 generalize hrl2:o.rels.length=rl2 at HV2 HSG HRS HO ⊢
 generalize hnn:g.nn=nn at HV1 HC HY HM HRC HSG HRS HFN HG ⊢
 generalize hnr:g.nr=nr at HV1 HC HY HM HRC HSG HRS HFN HG ⊢
 generalize hnn2:o.nn=nn2 at HV2 HSG HRS HO ⊢
 generalize hnr2:o.nr=nr2 at HV2 HSG HRS HO ⊢
 clear hnl hrl hnl2 hrl2 hnn hnr hnn2 hnr2 HO hE
 go_enter Tryz.func3,Tryz.ntmps3
 go_upto_region 1 with fail
 generalize hW1:World.alloc _ _=W1
 have hr1:=(rec_new w #[.slice na nl nc,.slice ra rl rc,.int .i64 nn,.int .i64 nr] 25).alloc (.cells #[.slice na2 nl2 nc2,.slice ra2 rl2 rc2,.int .i64 nn2,.int .i64 nr2] 25)
 have hr2:=rec_new (w.alloc (.cells #[.slice na nl nc,.slice ra rl rc,.int .i64 nn,.int .i64 nr] 25)) #[.slice na2 nl2 nc2,.slice ra2 rl2 rc2,.int .i64 nn2,.int .i64 nr2] 25
 rw [hW1] at hr1 hr2
 rw [World.size_alloc] at hr2
 have HR1:=hidE hr1
 have HR2:=hidE hr2
 have HB1:Hid (Below w.heap.size w W1):=by rw [← hW1];exact ((Below.refl _ _).alloc (Nat.le_refl _) _).alloc (by simp) _
 clear hW1
 have a0:=hr1.cell 0 rfl
 have d0:=hr2.cell 0 rfl
 have a1:=hr1.cell 1 rfl
 have d1:=hr2.cell 1 rfl
 have a2:=hr1.cell 2 rfl
 have d2:=hr2.cell 2 rfl
 have a3:=hr1.cell 3 rfl
 have d3:=hr2.cell 3 rfl
 clear hr1 hr2
 cases b1 with
 | true =>
  go_wp2_with fail
  refine (HV1.out W1 HB1.out).mono ?_
  rintro e w2 ⟨rfl,hb2⟩
  have HB2:=hidE (below_on HB1.out hb2)
  clear hb2
  go_wp2_with fail
  refine (HK.out w2 HB2.out).mono ?_
  rintro e w3 ⟨rfl,hb3⟩
  have HB3:=hidE (below_on HB2.out hb3)
  clear hb3
  go_wp2_with fail
  go_ret
  exact ⟨rfl,HB3.out⟩
 | false =>
  go_wp2_with fail
  refine (HV1.out W1 HB1.out).mono ?_
  rintro e w2 ⟨rfl,hb2⟩
  have HB2:=hidE (below_on HB1.out hb2)
  have HS1:=hidE (HR1.out.below hb2 HR1.out.lt)
  have HS2:=hidE (HR2.out.below hb2 HR2.out.lt)
  clear hb2 a0 a1 a2 a3 d0 d1 d2 d3 HR1 HR2
  have d0:=HS2.out.cell 0 rfl
  have d1:=HS2.out.cell 1 rfl
  have d2:=HS2.out.cell 2 rfl
  have d3:=HS2.out.cell 3 rfl
  go_wp2_with fail
  refine (HV2.out w2 HB2.out).mono ?_
  rintro e w3 ⟨rfl,hb3⟩
  have HB3:=hidE (below_on HB2.out hb3)
  have HR1:=hidE (HS1.out.below hb3 HS1.out.lt)
  have HR2:=hidE (HS2.out.below hb3 HS2.out.lt)
  clear hb3 d0 d1 d2 d3 HS1 HS2 HB2 HB1 HV1 HV2
  cases b2 with
  | true =>
   go_wp2_with fail
   refine (HK.out w3 HB3.out).mono ?_
   rintro e w4 ⟨rfl,hb4⟩
   have HB4:=hidE (below_on HB3.out hb4)
   clear hb4
   go_wp2_with fail
   go_ret
   exact ⟨rfl,HB4.out⟩
  | false =>
   have a0:=HR1.out.cell 0 rfl
   have a1:=HR1.out.cell 1 rfl
   have a2:=HR1.out.cell 2 rfl
   have a3:=HR1.out.cell 3 rfl
   go_wp2_with fail
   refine (HC.out w3 HB3.out).mono ?_
   rintro e w4 ⟨rfl,hb4⟩
   have HB4:=hidE (below_on HB3.out hb4)
   have HS1:=hidE (HR1.out.below hb4 HR1.out.lt)
   have HS2:=hidE (HR2.out.below hb4 HR2.out.lt)
   clear hb4 a0 a1 a2 a3 HR1 HR2 HC HB3
   have a0:=HS1.out.cell 0 rfl
   have a1:=HS1.out.cell 1 rfl
   have a2:=HS1.out.cell 2 rfl
   have a3:=HS1.out.cell 3 rfl
   generalize hcd:(if ok=true then (0:Int) else 2)=cd
   have HCD:=hidE hcd
   clear hcd
   go_wp2_with fail
   refine (HY.out w4 HB4.out).mono ?_
   rintro e w5 ⟨cv,rfl,hgf,hb5⟩
   have HB5:=hidE (below_on HB4.out hb5)
   have HR1:=hidE (HS1.out.below hb5 HS1.out.lt)
   have HR2:=hidE (HS2.out.below hb5 HS2.out.lt)
   have HL5:=hidE (hgf.lie HTY.out)
   have hs5:w4.heap.size≤w5.heap.size:=hb5.size
   obtain ⟨nv,rv,rfl,hq1,hq2⟩:=hgf
   obtain ⟨ca,cc,rfl,_⟩:=hq1
   obtain ⟨ta,tc,rfl,_⟩:=hq2
   clear hb5 a0 a1 a2 a3 HS1 HS2 HY HB4
   generalize hcl:g.nodes.length=cl at HL5 ⊢
   generalize hdl:g.rels.length=dl at HL5 ⊢
   generalize hcn:g.nn=cn at HL5 ⊢
   generalize hcr:g.nr=cr at HL5 ⊢
   clear hcl hdl hcn hcr
   go_upto_region 5 with fail
   generalize hW6:World.alloc _ _=W6
   have hr6:=rec_new w5 #[.slice ca cl cc,.slice ta dl tc,.int .i64 cn,.int .i64 cr] 25
   rw [hW6] at hr6
   have HR6:=hidE hr6
   have hb6:Below w5.heap.size w5 W6:=by rw [← hW6];exact (Below.refl _ _).alloc (Nat.le_refl _) _
   have HB6:=hidE (below_on HB5.out hb6)
   have HS1:=hidE (HR1.out.below hb6 HR1.out.lt)
   have HS2:=hidE (HR2.out.below hb6 HR2.out.lt)
   have HL6:=hidE (HL5.out.below hb6)
   have hs6:w5.heap.size≤W6.heap.size:=hb6.size
   clear hW6 hr6 hb6 HR1 HR2 HL5 HB5
   have a0:=HS1.out.cell 0 rfl
   have a1:=HS1.out.cell 1 rfl
   have a2:=HS1.out.cell 2 rfl
   have a3:=HS1.out.cell 3 rfl
   go_wp2_with fail
   refine (HM.out W6 HB6.out).mono ?_
   rintro e w7 hmk
   have hb7:Below W6.heap.size W6 w7:=by cases hmk<;>assumption
   have HMK:=hidE hmk
   have HB7:=hidE (below_on HB6.out hb7)
   have HR1:=hidE (HS1.out.below hb7 HS1.out.lt)
   have HR2:=hidE (HS2.out.below hb7 HS2.out.lt)
   have HR7:=hidE (HR6.out.below hb7 HR6.out.lt)
   have HL7:=hidE ((HL6.out.below (hb7.mono hs6)).mono (show w5.heap.size≤w7.heap.size by have:=hb7.size;omega))
   clear hb7 a0 a1 a2 a3 HS1 HS2 HR6 HL6 HM HB6
   obtain ⟨pv,ec,hev⟩:∃ pv ec,e=.returned (.tuple #[.pointer pv,.int .i64 ec]):=by cases hmk<;>exact ⟨_,_,rfl⟩
   subst hev
   clear hmk
   go_upto_region 6 with fail
   have HT:Hid (∀ W,Below w7.heap.size w7 W→Below w.heap.size w W):=fun W hb=>below_on HB7.out hb
   have HKC:=hidE (fun W (hb:Below w7.heap.size w7 W)=>rsame_any g g W.heap.size _ _ W (Nat.le_refl _) ((HL7.out.below hb).mono hb.size) ((HG.out W (below_on HB7.out hb)).mono (by have h1:=hb.size;have h2:=HB7.out.size;omega)))
   rw [sameGraph_self] at HKC
   have HKS:=hidE (fun W (hb:Below w7.heap.size w7 W)=>sameG_any g g W.heap.size _ _ W (Nat.le_refl _) (HE.out W (below_on HB7.out hb)).tabs ((HG.out W (below_on HB7.out hb)).mono (by have h1:=hb.size;have h2:=HB7.out.size;omega)) ((HL7.out.below hb).mono hb.size) HFG.out.modN HFG.out.modR HFG.out.modN HFG.out.modR)
   rw [sameG_eq,sameGraph_self,HFE.out,Bool.true_and] at HKS
   have h1l:=HR1.out.lt
   have h2l:=HR2.out.lt
   have h7l:=HR7.out.lt
   show (Code.region 6 RGC6 true).wp _ _ _ _
   cases ok with
   | false =>
    cases sg with
    | false =>
     refine regionGCFF w.heap.size (w.heap.size+1) w5.heap.size cd (.slice na nl nc) (.slice ra rl rc) (.int .i64 nn) (.int .i64 nr) (.slice na2 nl2 nc2) (.slice ra2 rl2 rc2) (.int .i64 nn2) (.int .i64 nr2) (.slice ca cl cc) (.slice ta dl tc) (.int .i64 cn) (.int .i64 cr) fn _ _ _ rfl ⟨rfl,rfl,rfl,rfl⟩ ?_ ?_
     ·intro W hW
      exact ⟨by rw [← HCD.out];rfl,(hW.cell (p:=⟨w.heap.size,0,none⟩) h1l).trans (HR1.out.cell 0 rfl),(hW.cell (p:=⟨w.heap.size,1,none⟩) h1l).trans (HR1.out.cell 1 rfl),(hW.cell (p:=⟨w.heap.size,2,none⟩) h1l).trans (HR1.out.cell 2 rfl),(hW.cell (p:=⟨w.heap.size,3,none⟩) h1l).trans (HR1.out.cell 3 rfl),HRC.out W (HT.out W hW),by rw [← HCD.out];rfl,by rw [← HCD.out];rfl,(hW.cell (p:=⟨w5.heap.size,0,none⟩) h7l).trans (HR7.out.cell 0 rfl),(hW.cell (p:=⟨w5.heap.size,1,none⟩) h7l).trans (HR7.out.cell 1 rfl),(hW.cell (p:=⟨w5.heap.size,2,none⟩) h7l).trans (HR7.out.cell 2 rfl),(hW.cell (p:=⟨w5.heap.size,3,none⟩) h7l).trans (HR7.out.cell 3 rfl),HKC.out W hW,(hW.cell (p:=⟨(w.heap.size+1),0,none⟩) h2l).trans (HR2.out.cell 0 rfl),(hW.cell (p:=⟨(w.heap.size+1),1,none⟩) h2l).trans (HR2.out.cell 1 rfl),(hW.cell (p:=⟨(w.heap.size+1),2,none⟩) h2l).trans (HR2.out.cell 2 rfl),(hW.cell (p:=⟨(w.heap.size+1),3,none⟩) h2l).trans (HR2.out.cell 3 rfl),HSG.out W (HT.out W hW),HRS.out W (HT.out W hW),HKS.out W hW,HFN.out W (HT.out W hW)⟩
     intro c W8 hS hB8 e64
     rw [same_peek hS [25,26,27,28,29,30,31,32,33,34,35,36,37,38,39,40,41,42,43,44,45,46,47,48,49,50,51,52,53,54,55,56,57,58,59,60,61,62,63,64] (by kernel_rfl)]
     simp only [List.foldl_cons,List.foldl_nil,List.setIfInBounds_toArray,List.set_cons_succ,List.set_cons_zero,show peek c 64=_ from e64]
     clear e64 hS
     have HB8:=hidE (below_on HB7.out hB8)
     have HS1:=hidE (HR1.out.below hB8 h1l)
     have hcd:cd=2:=HCD.out.symm
     have hpp:pv=none∧ec=2:=by
      rcases HMK.out with ⟨_,_⟩ | ⟨hc,_,_,_⟩
      ·exact ⟨rfl,rfl⟩
      ·rw [HOK.out] at hc;cases hc
     obtain ⟨rfl,rfl⟩:=hpp
     clear hB8
     subst hcd
     go_wp2_with fail
     refine (HK.out W8 HB8.out).mono ?_
     rintro e w9 ⟨rfl,hb9⟩
     have HB9:=hidE (below_on HB8.out hb9)
     clear hb9
     go_wp2_with fail
     go_ret
     exact ⟨rfl,HB9.out⟩
    | true =>
     rw [Bool.true_and] at HSG
     refine regionGCFT w.heap.size (w.heap.size+1) w5.heap.size cd (.slice na nl nc) (.slice ra rl rc) (.int .i64 nn) (.int .i64 nr) (.slice na2 nl2 nc2) (.slice ra2 rl2 rc2) (.int .i64 nn2) (.int .i64 nr2) (.slice ca cl cc) (.slice ta dl tc) (.int .i64 cn) (.int .i64 cr) fn _ _ _ rfl ⟨rfl,rfl,rfl,rfl⟩ ?_ ?_
     ·intro W hW
      exact ⟨by rw [← HCD.out];rfl,(hW.cell (p:=⟨w.heap.size,0,none⟩) h1l).trans (HR1.out.cell 0 rfl),(hW.cell (p:=⟨w.heap.size,1,none⟩) h1l).trans (HR1.out.cell 1 rfl),(hW.cell (p:=⟨w.heap.size,2,none⟩) h1l).trans (HR1.out.cell 2 rfl),(hW.cell (p:=⟨w.heap.size,3,none⟩) h1l).trans (HR1.out.cell 3 rfl),HRC.out W (HT.out W hW),by rw [← HCD.out];rfl,by rw [← HCD.out];rfl,(hW.cell (p:=⟨w5.heap.size,0,none⟩) h7l).trans (HR7.out.cell 0 rfl),(hW.cell (p:=⟨w5.heap.size,1,none⟩) h7l).trans (HR7.out.cell 1 rfl),(hW.cell (p:=⟨w5.heap.size,2,none⟩) h7l).trans (HR7.out.cell 2 rfl),(hW.cell (p:=⟨w5.heap.size,3,none⟩) h7l).trans (HR7.out.cell 3 rfl),HKC.out W hW,(hW.cell (p:=⟨(w.heap.size+1),0,none⟩) h2l).trans (HR2.out.cell 0 rfl),(hW.cell (p:=⟨(w.heap.size+1),1,none⟩) h2l).trans (HR2.out.cell 1 rfl),(hW.cell (p:=⟨(w.heap.size+1),2,none⟩) h2l).trans (HR2.out.cell 2 rfl),(hW.cell (p:=⟨(w.heap.size+1),3,none⟩) h2l).trans (HR2.out.cell 3 rfl),HSG.out W (HT.out W hW),HRS.out W (HT.out W hW),HFN.out W (HT.out W hW),HKS.out W hW,HFN.out W (HT.out W hW)⟩
     intro c W8 hS hB8 e64
     rw [same_peek hS [25,26,27,28,29,30,31,32,33,34,35,36,37,38,39,40,41,42,43,44,45,46,47,48,49,50,51,52,53,54,55,56,57,58,59,60,61,62,63,64] (by kernel_rfl)]
     simp only [List.foldl_cons,List.foldl_nil,List.setIfInBounds_toArray,List.set_cons_succ,List.set_cons_zero,show peek c 64=_ from e64]
     clear e64 hS
     have HB8:=hidE (below_on HB7.out hB8)
     have HS1:=hidE (HR1.out.below hB8 h1l)
     have hcd:cd=2:=HCD.out.symm
     have hpp:pv=none∧ec=2:=by
      rcases HMK.out with ⟨_,_⟩ | ⟨hc,_,_,_⟩
      ·exact ⟨rfl,rfl⟩
      ·rw [HOK.out] at hc;cases hc
     obtain ⟨rfl,rfl⟩:=hpp
     clear hB8
     subst hcd
     go_wp2_with fail
     refine (HK.out W8 HB8.out).mono ?_
     rintro e w9 ⟨rfl,hb9⟩
     have HB9:=hidE (below_on HB8.out hb9)
     clear hb9
     go_wp2_with fail
     go_ret
     exact ⟨rfl,HB9.out⟩
   | true =>
    cases sg with
    | false =>
     refine regionGCTF w.heap.size (w.heap.size+1) w5.heap.size cd (.slice na nl nc) (.slice ra rl rc) (.int .i64 nn) (.int .i64 nr) (.slice na2 nl2 nc2) (.slice ra2 rl2 rc2) (.int .i64 nn2) (.int .i64 nr2) (.slice ca cl cc) (.slice ta dl tc) (.int .i64 cn) (.int .i64 cr) fn _ _ _ rfl ⟨rfl,rfl,rfl,rfl⟩ ?_ ?_
     ·intro W hW
      exact ⟨by rw [← HCD.out];rfl,(hW.cell (p:=⟨w.heap.size,0,none⟩) h1l).trans (HR1.out.cell 0 rfl),(hW.cell (p:=⟨w.heap.size,1,none⟩) h1l).trans (HR1.out.cell 1 rfl),(hW.cell (p:=⟨w.heap.size,2,none⟩) h1l).trans (HR1.out.cell 2 rfl),(hW.cell (p:=⟨w.heap.size,3,none⟩) h1l).trans (HR1.out.cell 3 rfl),HRC.out W (HT.out W hW),by rw [← HCD.out];rfl,(hW.cell (p:=⟨w5.heap.size,0,none⟩) h7l).trans (HR7.out.cell 0 rfl),(hW.cell (p:=⟨w5.heap.size,1,none⟩) h7l).trans (HR7.out.cell 1 rfl),(hW.cell (p:=⟨w5.heap.size,2,none⟩) h7l).trans (HR7.out.cell 2 rfl),(hW.cell (p:=⟨w5.heap.size,3,none⟩) h7l).trans (HR7.out.cell 3 rfl),HKC.out W hW,(hW.cell (p:=⟨(w.heap.size+1),0,none⟩) h2l).trans (HR2.out.cell 0 rfl),(hW.cell (p:=⟨(w.heap.size+1),1,none⟩) h2l).trans (HR2.out.cell 1 rfl),(hW.cell (p:=⟨(w.heap.size+1),2,none⟩) h2l).trans (HR2.out.cell 2 rfl),(hW.cell (p:=⟨(w.heap.size+1),3,none⟩) h2l).trans (HR2.out.cell 3 rfl),HSG.out W (HT.out W hW),HRS.out W (HT.out W hW),HKS.out W hW,HFN.out W (HT.out W hW)⟩
     intro c W8 hS hB8 e64
     rw [same_peek hS [25,26,27,28,29,30,31,32,33,34,35,36,37,38,39,40,41,42,43,44,45,46,47,48,49,50,51,52,53,54,55,56,57,58,59,60,61,62,63,64] (by kernel_rfl)]
     simp only [List.foldl_cons,List.foldl_nil,List.setIfInBounds_toArray,List.set_cons_succ,List.set_cons_zero,show peek c 64=_ from e64]
     clear e64 hS
     have HB8:=hidE (below_on HB7.out hB8)
     have HS1:=hidE (HR1.out.below hB8 h1l)
     have hcd:cd=0:=HCD.out.symm
     obtain ⟨P,hPV,hEC,hmade⟩:∃ P:GP,Value.pointer pv=P.val∧ec=0∧Made W6.heap.size g P w7:=by
      generalize hen:Ending.returned (.tuple #[.pointer pv,.int .i64 ec])=en at HMK
      rcases HMK.out with ⟨hc,_⟩ | ⟨_,P,hm,_⟩
      ·rw [HOK.out] at hc;cases hc
      ·injection hen with hen
       injection hen with hen
       have hen:=congrArg Array.toList hen
       simp only [List.cons.injEq,and_true] at hen
       refine ⟨P,hen.1,?_,hm⟩
       injection hen.2
     obtain ⟨B9,lo9,N9,R9,F9,T9,hold⟩:=hmade
     have HHD:=hidE hold
     have HPV:=hidE hPV
     clear hold
     unfold GP.val at hPV
     injection hPV with hPV
     subst hPV hEC hcd
     go_upto_region 10 with fail
     have HW8:=hidE hB8
     clear hB8
     show (Code.region 10 RGC10 true).wp _ _ _ _
     refine regionGC10 w.heap.size P.g (.slice na nl nc) (.slice ra rl rc) (.int .i64 nn) (.int .i64 nr) g _ _ _ rfl ⟨rfl,rfl,rfl⟩ ?_ ?_
     ·intro W hW
      have hb:=below_on HW8.out hW
      have hh:=HHD.out.below hb
      have hlt:=HS1.out.lt
      have hbw:=below_on HB8.out hW
      exact ⟨(hW.cell (p:=⟨w.heap.size,0,none⟩) hlt).trans (HS1.out.cell 0 rfl),(hW.cell (p:=⟨w.heap.size,1,none⟩) hlt).trans (HS1.out.cell 1 rfl),(hW.cell (p:=⟨w.heap.size,2,none⟩) hlt).trans (HS1.out.cell 2 rfl),(hW.cell (p:=⟨w.heap.size,3,none⟩) hlt).trans (HS1.out.cell 3 rfl),(there_yes hh.gs).mono (fun e w' ⟨h1,h2⟩=>⟨h1,by rw [h2];exact Below.refl _ _⟩),Tell_any hh.gs B9 (by have:=hh.lob;omega) g.nodes g.rels (tell_made hh HOK.out HFG.out.mild.nodes HFG.out.mild.rels HTY.out) HFG.out.ofN HFG.out.ofR,HTY.out,(HG.out W hbw).mono (by have:=hbw.size;omega),sameGraph_self g,HK.out W hbw⟩
     intro c W9 hS hB9 e4
     rw [same_peek hS [76,77,78,79,80,81,82,83,84,85,86,87,88,89,90,4] (by kernel_rfl)]
     simp only [List.foldl_cons,List.foldl_nil,List.setIfInBounds_toArray,List.set_cons_succ,List.set_cons_zero,show peek c 4=_ from e4]
     clear e4 hS
     have HB9:=hidE (below_on HB8.out hB9)
     clear hB9
     go_wp2_with fail
     go_ret
     exact ⟨rfl,HB9.out⟩
    | true =>
     rw [Bool.true_and] at HSG
     refine regionGCTT w.heap.size (w.heap.size+1) w5.heap.size cd (.slice na nl nc) (.slice ra rl rc) (.int .i64 nn) (.int .i64 nr) (.slice na2 nl2 nc2) (.slice ra2 rl2 rc2) (.int .i64 nn2) (.int .i64 nr2) (.slice ca cl cc) (.slice ta dl tc) (.int .i64 cn) (.int .i64 cr) fn _ _ _ rfl ⟨rfl,rfl,rfl,rfl⟩ ?_ ?_
     ·intro W hW
      exact ⟨by rw [← HCD.out];rfl,(hW.cell (p:=⟨w.heap.size,0,none⟩) h1l).trans (HR1.out.cell 0 rfl),(hW.cell (p:=⟨w.heap.size,1,none⟩) h1l).trans (HR1.out.cell 1 rfl),(hW.cell (p:=⟨w.heap.size,2,none⟩) h1l).trans (HR1.out.cell 2 rfl),(hW.cell (p:=⟨w.heap.size,3,none⟩) h1l).trans (HR1.out.cell 3 rfl),HRC.out W (HT.out W hW),by rw [← HCD.out];rfl,(hW.cell (p:=⟨w5.heap.size,0,none⟩) h7l).trans (HR7.out.cell 0 rfl),(hW.cell (p:=⟨w5.heap.size,1,none⟩) h7l).trans (HR7.out.cell 1 rfl),(hW.cell (p:=⟨w5.heap.size,2,none⟩) h7l).trans (HR7.out.cell 2 rfl),(hW.cell (p:=⟨w5.heap.size,3,none⟩) h7l).trans (HR7.out.cell 3 rfl),HKC.out W hW,(hW.cell (p:=⟨(w.heap.size+1),0,none⟩) h2l).trans (HR2.out.cell 0 rfl),(hW.cell (p:=⟨(w.heap.size+1),1,none⟩) h2l).trans (HR2.out.cell 1 rfl),(hW.cell (p:=⟨(w.heap.size+1),2,none⟩) h2l).trans (HR2.out.cell 2 rfl),(hW.cell (p:=⟨(w.heap.size+1),3,none⟩) h2l).trans (HR2.out.cell 3 rfl),HSG.out W (HT.out W hW),HRS.out W (HT.out W hW),HFN.out W (HT.out W hW),HKS.out W hW,HFN.out W (HT.out W hW)⟩
     intro c W8 hS hB8 e64
     rw [same_peek hS [25,26,27,28,29,30,31,32,33,34,35,36,37,38,39,40,41,42,43,44,45,46,47,48,49,50,51,52,53,54,55,56,57,58,59,60,61,62,63,64] (by kernel_rfl)]
     simp only [List.foldl_cons,List.foldl_nil,List.setIfInBounds_toArray,List.set_cons_succ,List.set_cons_zero,show peek c 64=_ from e64]
     clear e64 hS
     have HB8:=hidE (below_on HB7.out hB8)
     have HS1:=hidE (HR1.out.below hB8 h1l)
     have hcd:cd=0:=HCD.out.symm
     obtain ⟨P,hPV,hEC,hmade⟩:∃ P:GP,Value.pointer pv=P.val∧ec=0∧Made W6.heap.size g P w7:=by
      generalize hen:Ending.returned (.tuple #[.pointer pv,.int .i64 ec])=en at HMK
      rcases HMK.out with ⟨hc,_⟩ | ⟨_,P,hm,_⟩
      ·rw [HOK.out] at hc;cases hc
      ·injection hen with hen
       injection hen with hen
       have hen:=congrArg Array.toList hen
       simp only [List.cons.injEq,and_true] at hen
       refine ⟨P,hen.1,?_,hm⟩
       injection hen.2
     obtain ⟨B9,lo9,N9,R9,F9,T9,hold⟩:=hmade
     have HHD:=hidE hold
     have HPV:=hidE hPV
     clear hold
     unfold GP.val at hPV
     injection hPV with hPV
     subst hPV hEC hcd
     go_upto_region 10 with fail
     have HW8:=hidE hB8
     clear hB8
     show (Code.region 10 RGC10 true).wp _ _ _ _
     refine regionGC10 w.heap.size P.g (.slice na nl nc) (.slice ra rl rc) (.int .i64 nn) (.int .i64 nr) g _ _ _ rfl ⟨rfl,rfl,rfl⟩ ?_ ?_
     ·intro W hW
      have hb:=below_on HW8.out hW
      have hh:=HHD.out.below hb
      have hlt:=HS1.out.lt
      have hbw:=below_on HB8.out hW
      exact ⟨(hW.cell (p:=⟨w.heap.size,0,none⟩) hlt).trans (HS1.out.cell 0 rfl),(hW.cell (p:=⟨w.heap.size,1,none⟩) hlt).trans (HS1.out.cell 1 rfl),(hW.cell (p:=⟨w.heap.size,2,none⟩) hlt).trans (HS1.out.cell 2 rfl),(hW.cell (p:=⟨w.heap.size,3,none⟩) hlt).trans (HS1.out.cell 3 rfl),(there_yes hh.gs).mono (fun e w' ⟨h1,h2⟩=>⟨h1,by rw [h2];exact Below.refl _ _⟩),Tell_any hh.gs B9 (by have:=hh.lob;omega) g.nodes g.rels (tell_made hh HOK.out HFG.out.mild.nodes HFG.out.mild.rels HTY.out) HFG.out.ofN HFG.out.ofR,HTY.out,(HG.out W hbw).mono (by have:=hbw.size;omega),sameGraph_self g,HK.out W hbw⟩
     intro c W9 hS hB9 e4
     rw [same_peek hS [76,77,78,79,80,81,82,83,84,85,86,87,88,89,90,4] (by kernel_rfl)]
     simp only [List.foldl_cons,List.foldl_nil,List.setIfInBounds_toArray,List.set_cons_succ,List.set_cons_zero,show peek c 4=_ from e4]
     clear e4 hS
     have HB9:=hidE (below_on HB8.out hB9)
     clear hB9
     go_wp2_with fail
     go_ret
     exact ⟨rfl,HB9.out⟩
end Go.Proofs.YteddjlbfbpecjaaGreatDoor

namespace Go.Proofs.YteddjlbfbpecjaaGreatDoor
open Go.ChangeShapes Go.WideShapes Go.ChangeAt Go.RowKit Go.Shelf Go.Deep
set_option linter.unusedVariables false
theorem cells60  : Tryz.prog.cellsOf 60=6:=by kernel_rfl
theorem cells58  : Tryz.prog.cellsOf 58=1:=by kernel_rfl
theorem cells44  : Tryz.prog.cellsOf 44=1:=by kernel_rfl
theorem cells57  : Tryz.prog.cellsOf 57=1:=by kernel_rfl
theorem cells9  : Tryz.prog.cellsOf 9=1:=by kernel_rfl
theorem cells4  : Tryz.prog.cellsOf 4=1:=by kernel_rfl
theorem cells2  : Tryz.prog.cellsOf 2=1:=by kernel_rfl
section
variable {H:Type} {enc:TypeId × Value→H} {W:World}
theorem kids_of {B bl:Nat} {w:World}:∀ (l:List Tree) (off:Nat),(∀ (i:Nat) (t:Tree),l[i]?=some t→∃ v0 v1 v2 v3 v4 v5,(w.cell? ⟨bl,off+i*6,none⟩=some v0∧w.cell? ⟨bl,off+i*6+1,none⟩=some v1∧w.cell? ⟨bl,off+i*6+2,none⟩=some v2∧w.cell? ⟨bl,off+i*6+3,none⟩=some v3 ∧
   w.cell? ⟨bl,off+i*6+4,none⟩=some v4∧w.cell? ⟨bl,off+i*6+5,none⟩=some v5)∧Lies B w (.agg #[v0,v1,v2,v3,v4,v5]) t)→KidsLie B w bl off l
 | [],off,h=>by simp only [KidsLie]
 | t::l,off,h=>by
  rw [KidsLie]
  refine ⟨?_,kids_of l (off+6) fun i u hu=>?_⟩
  ·have:=h 0 t rfl
   simpa using this
  ·have:=h (i+1) u (by simpa using hu)
   have e:off+(i+1)*6=off+6+i*6:=by omega
   rwa [e] at this
theorem sane_of  : ∀ (l:List Tree),(∀ t ∈ l,Sane t)→SaneL l
 | [],_=>by simp only [SaneL]
 | t::l,h=>by
  rw [SaneL]
  exact ⟨h t (by simp),sane_of l fun u hu=>h u (by simp [hu])⟩
end
end Go.Proofs.YteddjlbfbpecjaaGreatDoor

namespace Go.Proofs.YteddjlbfbpecjaaGreatDoor
open Go.ChangeShapes Go.WideShapes Go.ChangeAt Go.RowKit Go.Shelf Go.Deep
set_option linter.unusedVariables false
theorem cells79  : Tryz.prog.cellsOf 79=7:=by kernel_rfl
theorem cells45  : Tryz.prog.cellsOf 45=1:=by kernel_rfl
section
variable {H:Type} {enc:TypeId × Value→H} {W:World}
end
end Go.Proofs.YteddjlbfbpecjaaGreatDoor

