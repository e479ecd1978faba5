/- GraphKeeps: the law's own walk. A value, and a list of values, that is handed in: where it lies, as a tree. Properties, and a step of a script, that are handed in. -/
import Derived.Test.YteddjlbfbpecjaaGreatDoorJoin31
import Derived.Test.YteddjlbfbpecjaaGreatDoorJoin32
import Derived.Test.YteddjlbfbpecjaaGreatDoorKp26
import Derived.Test.YteddjlbfbpecjaaGreatDoorJoin35
import Derived.Test.YteddjlbfbpecjaaGreatDoorJoin15
import Derived.OpenShut
import Derived.SizedLaws
import Derived.ProofKit
import Derived.SliceStrings
import Derived.Deep.Slices
import Derived.Test.YteddjlbfbpecjaaGreatDoorJoin3
import Derived.Test.YteddjlbfbpecjaaGreatDoorJoin14
namespace Go.Proofs.YteddjlbfbpecjaaGreatDoor
open Go.RowKit Go.Shelf
set_option linter.unusedVariables false
set_option linter.unusedSimpArgs false
attribute [local go_sem] Oper.semAt_some
theorem Fit.bears {g:GraphP} (h:Fit g) (ht:∀ r ∈ g.rels,r.type.size≤maxLen):Bears g:=⟨h.ofN,h.ofR,ht⟩
theorem vast_few {g:GraphP} (h:vastB g=false):g.nodes.length+g.rels.length<65536:=by
 unfold vastB at h
 simp only [Bool.or_eq_false_iff,decide_eq_false_iff_not] at h
 omega
theorem big_few {ln pn:Nat} {key:ByteArray} {T:Tree} {ps:List (ByteArray × Tree)} (h:bigB ln pn key T ps=false):pn≤12:=by
 unfold bigB at h
 simp only [Bool.or_eq_false_iff,decide_eq_false_iff_not] at h
 omega
theorem told_box {lo B:Nat} {w:World} {v:Value} {g:GraphP} (h:GraphF lo B w v g):∃ na ra nc rc,v=.agg #[.slice na g.nodes.length nc,.slice ra g.rels.length rc,.int .i64 g.nn,.int .i64 g.nr]:=by
 obtain ⟨nv,rv,e,⟨a1,c1,e1,_⟩,⟨a2,c2,e2,_⟩⟩:=h
 exact ⟨a1,a2,c1,c2,by rw [e,e1,e2]⟩
set_option maxRecDepth 100000 in
set_option maxHeartbeats 16000000 in
theorem keeps_law (g:GraphP) (s:St) (T:Tree) (ps:List (ByteArray × Tree)) (ks:List ByteArray) (v:Value) (w:World) (hE:Env w) (hg:GraphLies w.heap.size w v g) (fg:Fit g)
  (hv:Lies w.heap.size w (.agg #[.int .i64 s.vk,.bool s.vb,.int .i64 s.vn,.string s.vs,.slice s.ka s.kn s.kc,.slice s.ya s.yn s.yc]) T) (hp:PropsLie w.heap.size w (.slice s.pa s.pn s.pc) ps) (hl:KeysLie w.heap.size w s.la ks) (hln:s.ln=ks.length) (hlc:ks.length≤s.lc∧s.lc≤9223372036854775807) (hkey:s.key.size≤9223372036854775807) (hT:T.total≤2000000) (hks:ks.length≤2000000) (hkz:∀ x ∈ ks,x.size≤140737488355328) (hq:∀ q ∈ ps,q.1.size≤140737488355328∧Modest q.2∧q.2.total≤2000000) :
  Calls Tryz.prog 8 #[v,s.val] w fun e w'=>e=.returned (.bool true)∧Below w.heap.size w w':=by
 have HG:=hidE (fun W (hb:Below w.heap.size w W)=>(hg.below hb))
 have HE:=hidE (fun W (hb:Below w.heap.size w W)=>hE.below hb hE.room)
 have HV1:=hidE (fun W (hb:Below w.heap.size w W)=>vast_any g w.heap.size v W hb.size (HG.out W hb) fg.bulk)
 have HBg:=hidE (fun W (hb:Below w.heap.size w W)=>big_any s T ps w.heap.size W hb.size (hv.below hb) (hp.below hb) hkey hT fun q h=>(hq q h).2.2)
 have HK:=hidE (fun W (hb:Below w.heap.size w W)=>known_any W (HE.out W hb))
 have HY:=hidE (fun W (hb:Below w.heap.size w W)=>copyG_any g v w.heap.size W hb.size (HG.out W hb) fg.mild.nodes fg.mild.rels fg.ofN fg.ofR)
 have HM:=hidE (fun W (hb:Below w.heap.size w W)=>make_any g w.heap.size v W hb.size (HE.out W hb) (HG.out W hb) fg.mild fg.nn fg.nr fg.ends fg.ofN fg.ofR)
 have HRC:=hidE (fun W (hb:Below w.heap.size w W)=>rcheckG_any g w.heap.size v W hb.size (HG.out W hb) fg.sized)
 have HTY:=hidE hg.types
 have hpl:s.pn=ps.length:=by obtain ⟨pa,pc,e,_⟩:=hp;injection e
 have HAD:Hid (∀ (b0:Nat) (p:GP) (B lo:Nat) (N R F Q:List (Int × Value)) (W:World),Below w.heap.size w W→Holds b0 g p B lo N R F Q W→checkPB g=true→vastB g=false→bigB s.ln s.pn s.key T ps=false→Calls Tryz.prog 30 #[p.val,.slice s.la s.ln s.lc,.slice s.pa s.pn s.pc] W fun e w'=>(∃ x y,e=.returned (.tuple #[.int .i64 x,.int .i64 y]))∧Below b0 W w'∧∃ g',Lives g' p w'∧Bears g'):=by
  intro b0 p B lo N R F Q W hb hh hc h1 h2
  rw [hln]
  exact addN_any hh hc (fg.bears hg.types) (vast_few h1) (HE.out W hb) (i64_of fg.nn.1 fg.nn.2) w.heap.size hb.size hE.room ks s.la s.lc (hl.below hb) hks hlc.1 hlc.2 hkz _ ps (hp.below hb) (by have:=big_few h2;omega) hq
 have HCS:Hid (∀ (W:World) (b i:Nat) (v:Value),W.heap[b]?=some (.cells s.cells 62 (0,0))→s.cells[i]?=some v→W.cell? ⟨b,i,none⟩=some v):=fun W b i v h hi=>st_cell h hi
 obtain ⟨ok,hok⟩:∃ b,checkPB g=b:=⟨_,rfl⟩
 have HOK:=hidE hok
 have hok2:=hok
 rw [check_same] at hok2
 rw [hok2] at HRC
 obtain ⟨b1,hb1⟩:∃ b,vastB g=b:=⟨_,rfl⟩
 obtain ⟨b2,hb2⟩:∃ b,bigB s.ln s.pn s.key T ps=b:=⟨_,rfl⟩
 rw [hb1] at HV1
 rw [hb2] at HBg
 have HV0:=hidE hb1
 have HB0:=hidE hb2
 obtain ⟨k,id,to_,rel,key,la,ln,lc,pa,pn,pc,vk,vb,vn,vs,ka,kn,kc,ya,yn,yc⟩:=s
 obtain ⟨na,nc,ra,rc,rfl,hq1,hq2⟩:=hg
 clear hq1 hq2 hok hok2 hb1 hb2 fg hv hp hl hln hlc hkey hT hks hkz hq hpl hE
 unfold St.val St.cells at HBg
 unfold St.val St.cells
 unfold St.cells at HCS
 simp only at HCS HBg HAD HB0 ⊢
 generalize hnl:g.nodes.length=nl at HV1 HY HM HRC HG ⊢
 generalize hrl:g.rels.length=rl at HV1 HY HM HRC HG ⊢
 generalize hnn:g.nn=nn at HV1 HY HM HRC HG ⊢
 generalize hnr:g.nr=nr at HV1 HY HM HRC HG ⊢
 clear hnl hrl hnn hnr
 go_enter Tryz.func8,Tryz.ntmps8
 go_upto_region 1 with fail
 generalize hW1:World.alloc _ _=W1
 have HB1:Hid (Below w.heap.size w W1):=by rw [← hW1];exact ((Below.refl _ _).alloc (Nat.le_refl _) _).alloc (by simp) _
 have HA:Hid (∀ W A,A=w.heap.size→Below W1.heap.size W1 W→W.cell? ⟨A,0,none⟩=some (.slice na nl nc)∧W.cell? ⟨A,1,none⟩=some (.slice ra rl rc)∧W.cell? ⟨A,2,none⟩=some (.int .i64 nn)∧W.cell? ⟨A,3,none⟩=some (.int .i64 nr)):=by
  intro W A hA hb
  have hr:=((rec_new w #[.slice na nl nc,.slice ra rl rc,.int .i64 nn,.int .i64 nr] 25).alloc (.cells #[.int .i64 k,.int .i64 id,.int .i64 to_,.bool rel,.string key,.slice la ln lc,.slice pa pn pc,.int .i64 vk,.bool vb,.int .i64 vn,.string vs,.slice ka kn kc,.slice ya yn yc] 62))
  rw [hW1] at hr
  have hr2:=hr.below hb hr.lt
  rw [hA]
  exact ⟨hr2.cell 0 rfl,hr2.cell 1 rfl,hr2.cell 2 rfl,hr2.cell 3 rfl⟩
 have HX:Hid (∀ W S,S=w.heap.size+1→Below W1.heap.size W1 W→W.cell? ⟨S,0,none⟩=some (.int .i64 k)∧W.cell? ⟨S,1,none⟩=some (.int .i64 id)∧W.cell? ⟨S,2,none⟩=some (.int .i64 to_)∧W.cell? ⟨S,3,none⟩=some (.bool rel)∧W.cell? ⟨S,4,none⟩=some (.string key)∧W.cell? ⟨S,5,none⟩=some (.slice la ln lc)∧W.cell? ⟨S,6,none⟩=some (.slice pa pn pc)∧W.cell? ⟨S,7,none⟩=some (.int .i64 vk)∧W.cell? ⟨S,8,none⟩=some (.bool vb)∧W.cell? ⟨S,9,none⟩=some (.int .i64 vn)∧W.cell? ⟨S,10,none⟩=some (.string vs)∧W.cell? ⟨S,11,none⟩=some (.slice ka kn kc)∧W.cell? ⟨S,12,none⟩=some (.slice ya yn yc)):=by
  intro W S hS hb
  have hh:W.heap[w.heap.size+1]?=some (.cells #[.int .i64 k,.int .i64 id,.int .i64 to_,.bool rel,.string key,.slice la ln lc,.slice pa pn pc,.int .i64 vk,.bool vb,.int .i64 vn,.string vs,.slice ka kn kc,.slice ya yn yc] 62 (0,0)):=by
   rw [hb.block _ (by rw [← hW1];simp),← hW1]
   have:=World.alloc_heap_new (w.alloc (.cells #[.slice na nl nc,.slice ra rl rc,.int .i64 nn,.int .i64 nr] 25)) (.cells #[.int .i64 k,.int .i64 id,.int .i64 to_,.bool rel,.string key,.slice la ln lc,.slice pa pn pc,.int .i64 vk,.bool vb,.int .i64 vn,.string vs,.slice ka kn kc,.slice ya yn yc] 62)
   rw [World.size_alloc] at this
   exact this
  rw [hS]
  exact ⟨HCS.out _ _ _ _ hh rfl,HCS.out _ _ _ _ hh rfl,HCS.out _ _ _ _ hh rfl,HCS.out _ _ _ _ hh rfl,HCS.out _ _ _ _ hh rfl,HCS.out _ _ _ _ hh rfl,HCS.out _ _ _ _ hh rfl,HCS.out _ _ _ _ hh rfl,HCS.out _ _ _ _ hh rfl,HCS.out _ _ _ _ hh rfl,HCS.out _ _ _ _ hh rfl,HCS.out _ _ _ _ hh rfl,HCS.out _ _ _ _ hh rfl⟩
 have hsz:w.heap.size+2≤W1.heap.size:=by rw [← hW1];simp
 clear hW1 HCS
 obtain ⟨A,hAe⟩:∃ A,A=w.heap.size:=⟨_,rfl⟩
 obtain ⟨S,hSe⟩:∃ S,S=w.heap.size+1:=⟨_,rfl⟩
 replace HA:=hidE (fun W=>HA.out W A hAe)
 replace HX:=hidE (fun W=>HX.out W S hSe)
 rw [← hSe,← hAe]
 have hAS:A<W1.heap.size∧S<W1.heap.size:=by omega
 have HAE:=hidE hAe
 clear hSe hsz hAe
 obtain ⟨a0,a1,a2,a3⟩:=HA.out W1 (Below.refl _ _)
 go_wp2_with fail
 refine (HV1.out W1 HB1.out).mono ?_
 rintro e w2 ⟨rfl,hb2⟩
 have HB2:=hidE hb2
 clear hb2 a0 a1 a2 a3 HV1
 cases b1 with
 | true =>
  go_wp2_with fail
  refine (HK.out w2 (below_on HB1.out HB2.out)).mono ?_
  rintro e k1 ⟨rfl,hk1⟩
  have HKB1:=hidE (below_on (below_on HB1.out HB2.out) hk1)
  clear hk1
  go_wp2_with fail
  go_ret
  exact ⟨rfl,HKB1.out⟩
 | false =>
  obtain ⟨x0,x1,x2,x3,x4,x5,x6,x7,x8,x9,x10,x11,x12⟩:=HX.out w2 HB2.out
  go_wp2_with fail
  refine (HBg.out w2 (below_on HB1.out HB2.out)).mono ?_
  rintro e w3 ⟨rfl,hb3⟩
  have HB3:=hidE (below_on HB2.out hb3)
  clear hb3 x0 x1 x2 x3 x4 x5 x6 x7 x8 x9 x10 x11 x12 HBg HB2
  cases b2 with
  | true =>
   go_wp2_with fail
   refine (HK.out w3 (below_on HB1.out HB3.out)).mono ?_
   rintro e k2 ⟨rfl,hk2⟩
   have HKB2:=hidE (below_on (below_on HB1.out HB3.out) hk2)
   clear hk2
   go_wp2_with fail
   go_ret
   exact ⟨rfl,HKB2.out⟩
  | false =>
   obtain ⟨a0,a1,a2,a3⟩:=HA.out w3 HB3.out
   go_wp2_with fail
   refine (HRC.out w3 (below_on HB1.out HB3.out)).mono ?_
   rintro e w4 ⟨rfl,hb4⟩
   have HB4:=hidE (below_on HB3.out hb4)
   clear hb4 a0 a1 a2 a3 HRC HB3
   cases ok with
   | false =>
    go_wp2_with fail
    refine (HK.out w4 (below_on HB1.out HB4.out)).mono ?_
    rintro e k3 ⟨rfl,hk3⟩
    have HKB3:=hidE (below_on (below_on HB1.out HB4.out) hk3)
    clear hk3
    go_wp2_with fail
    go_ret
    exact ⟨rfl,HKB3.out⟩
   | true =>
    obtain ⟨a0,a1,a2,a3⟩:=HA.out w4 HB4.out
    go_wp2_with fail
    refine (HY.out w4 (below_on HB1.out HB4.out)).mono ?_
    rintro e w5 ⟨cv,rfl,hgf,hb5⟩
    have HB5:=hidE (below_on HB4.out hb5)
    have HL5:=hidE (hgf.lie HTY.out)
    obtain ⟨ca,ta,cc,tc,rfl⟩:=told_box hgf
    clear hb5 a0 a1 a2 a3 HY HB4 hgf
    generalize hcl:g.nodes.length=cl at HL5 ⊢
    generalize hdl:g.rels.length=dl at HL5 ⊢
    generalize hcn:g.nn=cn at HL5 ⊢
    generalize hcr:g.nr=cr at HL5 ⊢
    clear hcl hdl hcn hcr
    go_upto_region 4 with fail
    generalize hW6:World.alloc _ _=W6
    have hr6:=rec_new w5 #[.slice ca cl cc,.slice ta dl tc,.int .i64 cn,.int .i64 cr] 25
    rw [hW6] at hr6
    have HR6:=hidE hr6
    have hb6:Below w5.heap.size w5 W6:=by rw [← hW6];exact (Below.refl _ _).alloc (Nat.le_refl _) _
    have HB6:=hidE (below_on HB5.out hb6)
    have HL6:=hidE ((HL5.out.below hb6).mono hb6.size)
    obtain ⟨Z,hZ⟩:∃ Z,w5.heap.size=Z:=⟨_,rfl⟩
    rw [hZ] at HR6 ⊢
    clear hW6 hr6 hb6 HL5 HB5 hZ
    obtain ⟨a0,a1,a2,a3⟩:=HA.out W6 HB6.out
    go_wp2_with fail
    refine (HM.out W6 (below_on HB1.out HB6.out)).mono ?_
    rintro e w7 hmk
    obtain ⟨p,rfl,hmade,hb7⟩:∃ p:GP,e=.returned (.tuple #[p.val,.int .i64 0])∧Made W6.heap.size g p w7∧Below W6.heap.size W6 w7:=by
     rcases hmk with ⟨hc,hb⟩ | ⟨hc,p,hm,hb⟩
     ·rw [HOK.out] at hc;cases hc
     ·exact ⟨p,rfl,hm,hb⟩
    obtain ⟨Bh,lo,N,R,F,Q,hold⟩:=hmade
    have HAN:=hidE (HAD.out _ p Bh lo N R F Q w7 (below_on HB1.out (below_on HB6.out hb7)) hold HOK.out HV0.out HB0.out)
    have HB7:=hidE hb7
    clear hb7 hmk a0 a1 a2 a3 HM hold HAD
    unfold GP.val at HAN ⊢
    obtain ⟨x0,x1,x2,x3,x4,x5,x6,x7,x8,x9,x10,x11,x12⟩:=HX.out w7 (below_on HB6.out HB7.out)
    go_wp2_with fail
    refine HAN.out.mono ?_
    rintro e w8 ⟨⟨rx,ry,rfl⟩,hb8,g',hlv,hbr⟩
    have HB8:Hid (Below W6.heap.size W6 w8):=HB7.out.trans hb8
    have HBR:=hidE hbr
    have HLV:=hidE hlv
    have HT8:=hidE (tell_lives hlv hbr)
    unfold GP.val at HT8
    clear x0 x1 x2 x3 x4 x5 x6 x7 x8 x9 x10 x11 x12 hb8 hlv hbr HAN HB7
    go_wp2_with fail
    refine HT8.out.mono ?_
    rintro e w9 ⟨v9,rfl,hf9,hb9⟩
    have HB9:=hidE (below_on HB8.out hb9)
    have HL9:=hidE (hf9.lie HBR.out.ty)
    have HLV9:=hidE (HLV.out.below hb9)
    obtain ⟨ca9,ta9,cc9,tc9,rfl⟩:=told_box hf9
    clear hb9 hf9 HT8 HLV HB8
    generalize hcl9:g'.nodes.length=cl9 at HL9 ⊢
    generalize hdl9:g'.rels.length=dl9 at HL9 ⊢
    generalize hcn9:g'.nn=cn9 at HL9 ⊢
    generalize hcr9:g'.nr=cr9 at HL9 ⊢
    clear hcl9 hdl9 hcn9 hcr9
    go_upto_region 9 with fail
    generalize hW10:World.alloc _ _=W10
    have hr10:=rec_new w9 #[.slice ca9 cl9 cc9,.slice ta9 dl9 tc9,.int .i64 cn9,.int .i64 cr9] 25
    rw [hW10] at hr10
    have HR10:=hidE hr10
    have hb10:Below w9.heap.size w9 W10:=by rw [← hW10];exact (Below.refl _ _).alloc (Nat.le_refl _) _
    have HB10:=hidE (below_on HB9.out hb10)
    have HL10:=hidE ((HL9.out.below hb10).mono hb10.size)
    have HLV10:=hidE (HLV9.out.below hb10)
    obtain ⟨M,hM⟩:∃ M,w9.heap.size=M:=⟨_,rfl⟩
    rw [hM] at HR10 ⊢
    have HT10:=hidE (tell_lives HLV10.out HBR.out)
    unfold GP.val at HT10
    clear hW10 hr10 hb10 HL9 HB9 HLV9 hM
    go_wp2_with fail
    refine HT10.out.mono ?_
    rintro e w11 ⟨v11,rfl,hf11,hb11⟩
    obtain ⟨na',ra',nc',rc',rfl⟩:=told_box hf11
    have HF11:=hidE hf11
    have HB11:=hidE hb11
    clear hf11 hb11 HT10
    go_upto_region 10 with fail
    generalize hW12:World.alloc _ _=W12
    have HBt:Hid (Bent W10 W10.heap.size w11.heap.size g' na' ra' nc' rc' W12):=by rw [← hW12];exact bent_start HF11.out HB11.out HB11.out.size
    obtain ⟨H,hH⟩:∃ H,w11.heap.size=H:=⟨_,rfl⟩
    obtain ⟨L,hL⟩:∃ L,W10.heap.size=L:=⟨_,rfl⟩
    rw [hH,hL] at HBt
    rw [hH]
    have HLE:=hidE hL
    clear hW12 HF11 HB11 hH hL
    go_wp2_with fail
    go_loopw [10] (fun i wr=>∃ j:Nat,j≤g'.nodes.length∧i=.int .i64 j∧Bent W10 L H g' na' ra' nc' rc' wr) (fun i _=>g'.nodes.length - (intOf i).toNat)
    case atStart=>exact ⟨0,Nat.zero_le _,rfl,HBt.out⟩
    case round =>
     obtain ⟨j,hj,rfl,hbt⟩:=hrel
     have HBT:=hidE hbt
     clear HBt
     by_cases hlt:j<g'.nodes.length
     ·obtain ⟨n,hn⟩:∃ n,g'.nodes[j]?=some n:=⟨_,List.getElem?_eq_getElem hlt⟩
      have HN:=hidE hn
      have q0:=hbt.box.cell 0 rfl
      obtain ⟨lab,hlabn⟩:∃ m,n.labels.length=m:=⟨_,rfl⟩
      obtain ⟨prn,hprn⟩:∃ m,n.props.length=m:=⟨_,rfl⟩
      have HND:Hid (∀ W,Bent W10 L H g' na' ra' nc' rc' W→∃ G,na'=some ⟨G,0,none⟩∧L≤G∧G<H∧∃ la lc pa pc,Slot W G (j*3)∧W.cell? ⟨G,j*3+1,none⟩=some (.slice la lab lc)∧W.cell? ⟨G,j*3+2,none⟩=some (.slice pa prn pc)∧(lab≤lc∧lc≤9223372036854775807∧prn≤pc∧pc≤9223372036854775807)∧(∀ k,k<lab→∃ b off,la=some ⟨b,off,none⟩∧G<b∧b<H∧Slot W b (off+k))∧∀ k,k<prn→∃ b,pa=some ⟨b,0,none⟩∧G<b∧b<H∧Slot W b (k*7)):=fun W hW=>by
       obtain ⟨G,e,h1,h2,h3⟩:=hW.nodes j n hn
       unfold NodeB at h3
       rw [hlabn,hprn] at h3
       exact ⟨G,e,h1,h2,h3⟩
      clear hn hbt hlabn hprn
      obtain ⟨wo,hwo⟩:∃ x,x=wr:=⟨_,rfl⟩
      rw [← hwo] at HBT q0 ⊢
      clear hwo wr
      go_wp2_with fail
      go_loopw [11] (fun i wr=>∃ t:Nat,t≤lab∧i=.int .i64 t∧Bent W10 L H g' na' ra' nc' rc' wr) (fun i _=>lab - (intOf i).toNat)
      case atStart=>exact ⟨0,Nat.zero_le _,rfl,HBT.out⟩
      case round =>
       obtain ⟨t,ht,rfl,hbt⟩:=hrel
       clear HBT q0
       have HBT:=hidE hbt
       obtain ⟨G,hna,hG1,hG2,la',lc',pa',pc',s0,c1,c2,hls,hlab,hpro⟩:=HND.out wr hbt
       have q0:wr.cell? ⟨H,0,none⟩=some (.slice (some ⟨G,0,none⟩) g'.nodes.length nc'):=by rw [← hna];exact hbt.box.cell 0 rfl
       have hnc:=hbt.low
       have HNA:=hidE hna
       clear hbt hpro s0 c2 hna
       by_cases htl:t<lab
       ·obtain ⟨b,off,rfl,hb1,hb2,hs⟩:=hlab t htl
        obtain ⟨u,y⟩:=Option.isSome_iff_exists.1 hs.1
        have f:=hs.2
        clear hs hlab
        go_upto_region 15 with fail
        generalize hWn:World.setCell _ _ _=Wn
        have HBn:Hid (Bent W10 L H g' na' ra' nc' rc' Wn):=by
         rw [← hWn]
         exact HBT.out.set _ (by omega) hb2 fun _ _ G' _ e1 e2=>by
          rw [HNA.out] at e1
          injection e1 with e1
          injection e1 with e1
          omega
        clear hWn y f c1 q0
        go_wp2_with fail
        go_roundw
        case rel=>exact ⟨t+1,by omega,by go_num,HBn.out⟩
        case measure=>simp [intOf];omega
       ·obtain rfl:t=lab:=by omega
        clear hlab
        go_wp2_with fail
        clear q0 c1 HNA hls hnc
        obtain ⟨wp,hwp⟩:∃ x,x=wr:=⟨_,rfl⟩
        rw [← hwp] at HBT ⊢
        clear hwp wr
        go_loopw [12] (fun i wr=>∃ t:Nat,t≤prn∧i=.int .i64 t∧Bent W10 L H g' na' ra' nc' rc' wr) (fun i _=>prn - (intOf i).toNat)
        case atStart=>exact ⟨0,Nat.zero_le _,rfl,HBT.out⟩
        case round =>
         obtain ⟨u,hu,rfl,hbt⟩:=hrel
         clear HBT
         have HBT:=hidE hbt
         obtain ⟨G,hna,hG1,hG2,la',lc',pa',pc',s0,c1,c2,hls,hlab,hpro⟩:=HND.out wr hbt
         have q0:wr.cell? ⟨H,0,none⟩=some (.slice (some ⟨G,0,none⟩) g'.nodes.length nc'):=by rw [← hna];exact hbt.box.cell 0 rfl
         have hnc:=hbt.low
         have HNA:=hidE hna
         clear hbt hlab c1 hna
         by_cases hul:u<prn
         ·obtain ⟨b,rfl,hb1,hb2,hs⟩:=hpro u hul
          obtain ⟨z,y⟩:=Option.isSome_iff_exists.1 hs.1
          have f:=hs.2
          clear hs hpro s0
          go_upto_region 19 with fail
          generalize hWn:World.setCell _ _ _=Wn
          have HBn:Hid (Bent W10 L H g' na' ra' nc' rc' Wn):=by
           rw [← hWn]
           exact HBT.out.set _ (by omega) hb2 fun _ _ G' _ e1 e2=>by
            rw [HNA.out] at e1
            injection e1 with e1
            injection e1 with e1
            omega
          clear hWn y f c2 q0
          go_wp2_with fail
          go_roundw
          case rel=>exact ⟨u+1,by omega,by go_num,HBn.out⟩
          case measure=>simp [intOf];omega
         ·obtain rfl:u=prn:=by omega
          obtain ⟨z,y⟩:=Option.isSome_iff_exists.1 s0.1
          have f:=s0.2
          clear hpro s0
          go_upto_region 12 with fail
          generalize hWn:World.setCell _ _ _=Wn
          have HBn:Hid (Bent W10 L H g' na' ra' nc' rc' Wn):=by
           rw [← hWn]
           exact HBT.out.set _ hG1 hG2 fun _ _ G' _ e1 e2=>by omega
          clear hWn y f c2 q0
          go_wp2_with fail
          go_roundw
          case rel=>exact ⟨j+1,by omega,by go_num,HBn.out⟩
          case measure=>simp [intOf];omega
     ·obtain rfl:j=g'.nodes.length:=by omega
      have q0:=hbt.box.cell 0 rfl
      clear hbt
      go_wp2_with fail
      clear q0
      obtain ⟨wo,hwo⟩:∃ x,x=wr:=⟨_,rfl⟩
      rw [← hwo] at HBT ⊢
      clear hwo wr
      go_loopw [13] (fun i wr=>∃ t:Nat,t≤g'.rels.length∧i=.int .i64 t∧Bent W10 L H g' na' ra' nc' rc' wr) (fun i _=>g'.rels.length - (intOf i).toNat)
      case atStart=>exact ⟨0,Nat.zero_le _,rfl,HBT.out⟩
      case round =>
       obtain ⟨t,ht,rfl,hbt⟩:=hrel
       clear HBT
       have HBT:=hidE hbt
       by_cases htl:t<g'.rels.length
       ·obtain ⟨r,hr⟩:∃ r,g'.rels[t]?=some r:=⟨_,List.getElem?_eq_getElem htl⟩
        obtain ⟨G,hra,hG1,hG2,s0⟩:=hbt.rels t r hr
        have q1:wr.cell? ⟨H,1,none⟩=some (.slice (some ⟨G,0,none⟩) g'.rels.length rc'):=by rw [← hra];exact hbt.box.cell 1 rfl
        obtain ⟨z,y⟩:=Option.isSome_iff_exists.1 s0.1
        have f:=s0.2
        have HSG:Hid (∀ (i:Nat) (n:NodeP) (G':Nat),g'.nodes[i]?=some n→na'=some ⟨G',0,none⟩→G=G'→(t*5+3) % 3=0):=fun i n G' h1 h2 h3=>absurd (by rw [h2,hra,h3]) (hbt.apart i n t r h1 hr)
        have hnc:=hbt.low
        clear hbt hra hr s0
        go_upto_region 24 with fail
        generalize hWn:World.setCell _ _ _=Wn
        have HBn:Hid (Bent W10 L H g' na' ra' nc' rc' Wn):=by
         rw [← hWn]
         exact HBT.out.set _ hG1 hG2 HSG.out
        clear hWn y f q1
        go_wp2_with fail
        go_roundw
        case rel=>exact ⟨t+1,by omega,by go_num,HBn.out⟩
        case measure=>simp [intOf];omega
       ·obtain rfl:t=g'.rels.length:=by omega
        have q1:=hbt.box.cell 1 rfl
        clear hbt
        go_wp2_with fail
        have HZ:Hid (Below W10.heap.size W10 wr):=by rw [HLE.out];exact HBT.out.bel
        have HWw:Hid (∀ W,Below wr.heap.size wr W→Below w.heap.size w W):=fun W h=>below_on HB1.out (below_on HB6.out (below_on HB10.out (below_on HZ.out h)))
        have HCL:Hid (∀ W,Below wr.heap.size wr W→(W.cell? ⟨A,0,none⟩=some (.slice na nl nc)∧W.cell? ⟨A,1,none⟩=some (.slice ra rl rc)∧W.cell? ⟨A,2,none⟩=some (.int .i64 nn)∧W.cell? ⟨A,3,none⟩=some (.int .i64 nr))∧(W.cell? ⟨Z,0,none⟩=some (.slice ca cl cc)∧W.cell? ⟨Z,1,none⟩=some (.slice ta dl tc)∧W.cell? ⟨Z,2,none⟩=some (.int .i64 cn)∧W.cell? ⟨Z,3,none⟩=some (.int .i64 cr))∧(W.cell? ⟨M,0,none⟩=some (.slice ca9 cl9 cc9)∧W.cell? ⟨M,1,none⟩=some (.slice ta9 dl9 tc9)∧W.cell? ⟨M,2,none⟩=some (.int .i64 cn9)∧W.cell? ⟨M,3,none⟩=some (.int .i64 cr9))):=fun W h=>by
         have h10:=below_on HZ.out h
         have h6:=below_on HB10.out h10
         have r6:=HR6.out.below h6 HR6.out.lt
         have r10:=HR10.out.below h10 HR10.out.lt
         exact ⟨HA.out W (below_on HB6.out h6),⟨r6.cell 0 rfl,r6.cell 1 rfl,r6.cell 2 rfl,r6.cell 3 rfl⟩,⟨r10.cell 0 rfl,r10.cell 1 rfl,r10.cell 2 rfl,r10.cell 3 rfl⟩⟩
        have HTZ:Hid (∀ W,Below wr.heap.size wr W→Calls Tryz.prog 19 #[.pointer (some ⟨p.g,0,none⟩)] W (TellF W g')):=fun W h=>tell_lives (HLV10.out.below (below_on HZ.out h)) HBR.out
        have HS2:Hid (∀ W,Below wr.heap.size wr W→Calls Tryz.prog 15 #[.agg #[.slice na nl nc,.slice ra rl rc,.int .i64 nn,.int .i64 nr],.agg #[.slice ca cl cc,.slice ta dl tc,.int .i64 cn,.int .i64 cr]] W fun e w'=>e=.returned (.bool true)∧Below W.heap.size W w'):=fun W h=>by
         have h6:=below_on HB10.out (below_on HZ.out h)
         have hw:=HWw.out W h
         have:=rsame_any g g W.heap.size _ _ W (Nat.le_refl _) ((HG.out W hw).mono hw.size) ((HL6.out.below h6).mono h6.size)
         rwa [sameGraph_self] at this
        show (Code.region 26 RGK26 true).wp _ _ _ _
        refine regionGK26 A Z M p.g (.slice na nl nc) (.slice ra rl rc) (.int .i64 nn) (.int .i64 nr) (.slice ca cl cc) (.slice ta dl tc) (.int .i64 cn) (.int .i64 cr) (.slice ca9 cl9 cc9) (.slice ta9 dl9 tc9) (.int .i64 cn9) (.int .i64 cr9) g' _ _ _ rfl ⟨rfl,rfl,rfl,rfl⟩ ?_ ?_
        ·intro W hW
         obtain ⟨⟨a0,a1,a2,a3⟩,⟨z0,z1,z2,z3⟩,m0,m1,m2,m3⟩:=HCL.out W hW
         have h10:=below_on HZ.out hW
         exact ⟨a0,a1,a2,a3,z0,z1,z2,z3,m0,m1,m2,m3,HTZ.out W hW,HBR.out.ty,(HL10.out.below h10).mono h10.size,sameGraph_self g',HS2.out W hW,HK.out W (HWw.out W hW)⟩
        intro c W9 hS hB9 e4
        rw [same_peek hS [112,113,114,115,116,117,118,119,120,121,122,123,4] (by kernel_rfl)]
        simp only [List.foldl_cons,List.foldl_nil,List.setIfInBounds_toArray,List.set_cons_succ,List.set_cons_zero,show peek c 4=_ from e4]
        clear e4 hS
        have HB9:=hidE (HWw.out _ hB9)
        clear hB9
        go_wp2_with fail
        go_ret
        exact ⟨rfl,HB9.out⟩
end Go.Proofs.YteddjlbfbpecjaaGreatDoor

namespace Go.Proofs.YteddjlbfbpecjaaGreatDoor
open Go.ChangeShapes Go.WideShapes Go.ChangeAt Go.RowKit Go.Shelf Go.Deep
set_option linter.unusedVariables false
theorem cells60  : Tryz.prog.cellsOf 60=6:=by kernel_rfl
theorem cells58  : Tryz.prog.cellsOf 58=1:=by kernel_rfl
theorem cells44  : Tryz.prog.cellsOf 44=1:=by kernel_rfl
theorem cells57  : Tryz.prog.cellsOf 57=1:=by kernel_rfl
theorem cells9  : Tryz.prog.cellsOf 9=1:=by kernel_rfl
theorem cells4  : Tryz.prog.cellsOf 4=1:=by kernel_rfl
theorem cells2  : Tryz.prog.cellsOf 2=1:=by kernel_rfl
section
variable {H:Type} {enc:TypeId × Value→H} {W:World}
theorem kids_of {B bl:Nat} {w:World}:∀ (l:List Tree) (off:Nat),(∀ (i:Nat) (t:Tree),l[i]?=some t→∃ v0 v1 v2 v3 v4 v5,(w.cell? ⟨bl,off+i*6,none⟩=some v0∧w.cell? ⟨bl,off+i*6+1,none⟩=some v1∧w.cell? ⟨bl,off+i*6+2,none⟩=some v2∧w.cell? ⟨bl,off+i*6+3,none⟩=some v3 ∧
   w.cell? ⟨bl,off+i*6+4,none⟩=some v4∧w.cell? ⟨bl,off+i*6+5,none⟩=some v5)∧Lies B w (.agg #[v0,v1,v2,v3,v4,v5]) t)→KidsLie B w bl off l
 | [],off,h=>by simp only [KidsLie]
 | t::l,off,h=>by
  rw [KidsLie]
  refine ⟨?_,kids_of l (off+6) fun i u hu=>?_⟩
  ·have:=h 0 t rfl
   simpa using this
  ·have:=h (i+1) u (by simpa using hu)
   have e:off+(i+1)*6=off+6+i*6:=by omega
   rwa [e] at this
theorem sane_of  : ∀ (l:List Tree),(∀ t ∈ l,Sane t)→SaneL l
 | [],_=>by simp only [SaneL]
 | t::l,h=>by
  rw [SaneL]
  exact ⟨h t (by simp),sane_of l fun u hu=>h u (by simp [hu])⟩
end
end Go.Proofs.YteddjlbfbpecjaaGreatDoor

namespace Go.Proofs.YteddjlbfbpecjaaGreatDoor
open Go.ChangeShapes Go.WideShapes Go.ChangeAt Go.RowKit Go.Shelf Go.Deep
set_option linter.unusedVariables false
theorem cells79  : Tryz.prog.cellsOf 79=7:=by kernel_rfl
theorem cells62  : Tryz.prog.cellsOf 62=13:=by kernel_rfl
theorem cells45  : Tryz.prog.cellsOf 45=1:=by kernel_rfl
theorem cells3  : Tryz.prog.cellsOf 3=1:=by kernel_rfl
section
variable {H:Type} {enc:TypeId × Value→H} {W:World}
end
end Go.Proofs.YteddjlbfbpecjaaGreatDoor

