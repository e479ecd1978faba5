/- May a graph be: the program's word. A graph is made, of any that may be. -/
import Derived.Test.YteddjlbfbpecjaaGreatDoorJoin25
import Derived.Test.YteddjlbfbpecjaaGreatDoorJoin3
import Derived.Test.YteddjlbfbpecjaaGreatDoorJoin26
import Derived.Test.YteddjlbfbpecjaaGreatDoorJoin27
namespace Go.Proofs.YteddjlbfbpecjaaGreatDoor
open Go.RowKit Go.Shelf
set_option linter.unusedVariables false
set_option linter.unusedSimpArgs false
attribute [local go_sem] Oper.semAt_some
theorem i64_of {k:Int} (h1:-9223372036854775808≤k) (h2:k≤9223372036854775807):I64 k:=by
 have a:IntKind.i64.min=-9223372036854775808:=by kernel_rfl
 have b:IntKind.i64.max=9223372036854775807:=by kernel_rfl
 unfold I64 Lit.wf
 simp [a,b]
 omega
theorem riseI_all {next:Int}:∀ {ks:List Int} {l:Int},riseI next l ks=true→(∀ x ∈ ks,l≤x∧x<next)∧ks.Pairwise (·≠·)
 | [],l,h=>⟨fun x hx=>by simp at hx,List.Pairwise.nil⟩
 | y::r,l,h=>by
  rw [riseI] at h
  simp only [Bool.and_eq_true,Bool.not_eq_true',decide_eq_false_iff_not] at h
  obtain ⟨h1,h2,h3⟩:=h
  obtain ⟨h4,h5⟩:=riseI_all h3
  refine ⟨fun x hx=>?_,List.pairwise_cons.2 ⟨fun x hx=>by have:=h4 x hx;omega,h5⟩⟩
  rcases List.mem_cons.1 hx with rfl | hx
  ·omega
  ·have:=h4 x hx;omega
def checkPB (g:GraphP):Bool:=decide ((g.nodes.length:Int)+(g.rels.length:Int)≤65536)&&((riseI g.nn 0 (g.nodes.map NodeP.id)&&riseI g.nr 0 (g.rels.map RelP.id))&&(labelsB g.nodes&&((nodePropsB g.nodes&&relPropsB g.rels)&&(typesB g.rels&&endsB (idsE g.nodes) g.rels))))
set_option maxRecDepth 100000 in
set_option maxHeartbeats 4000000 in
theorem checkP_any (g:GraphP) (B:Nat) (v:Value) (w:World) (hB:B≤w.heap.size) (hE:Env w) (hg:GraphLies B w v g) (hz:Mild g) (hn1:-9223372036854775808≤g.nn∧g.nn≤9223372036854775807) (hn2:-9223372036854775808≤g.nr∧g.nr≤9223372036854775807) (hi2:∀ r ∈ g.rels,I64 r.fr∧I64 r.tt):Calls Tryz.prog 11 #[v] w fun e w'=>e=.returned (.int .i64 (if checkPB g=true then 0 else 2))∧Below w.heap.size w w':=by
 have HE:=hidE hE
 obtain ⟨res,hres⟩:∃ r,checkPB g=r:=⟨_,rfl⟩
 rw [hres]
 obtain ⟨code,hcode⟩:∃ c:Int,(if res=true then 0 else 2)=c:=⟨_,rfl⟩
 rw [hcode]
 have HCD:=hidE hcode
 clear hcode
 unfold checkPB at hres
 have hg0:=hg
 obtain ⟨na,nc,ra,rc,rfl,_,_⟩:=hg0
 have HC0:Hid (∀ W,Below w.heap.size w W→Calls Tryz.prog 93 #[.agg #[.slice na g.nodes.length nc,.slice ra g.rels.length rc,.int .i64 g.nn,.int .i64 g.nr]] W fun e w'=>e=.returned (.bool (decide ((g.nodes.length:Int)+(g.rels.length:Int)≤65536)))∧Below W.heap.size W w'):=fun W hb=>few_any g B _ W (by have:=hb.size;omega) (HE.out.below hb HE.out.room) (hg.below (hb.mono hB)) hz
 have HC1:Hid (∀ W,Below w.heap.size w W→Calls Tryz.prog 94 #[.agg #[.slice na g.nodes.length nc,.slice ra g.rels.length rc,.int .i64 g.nn,.int .i64 g.nr]] W fun e w'=>e=.returned (.bool ((riseI g.nn 0 (g.nodes.map NodeP.id)&&riseI g.nr 0 (g.rels.map RelP.id))))∧Below W.heap.size W w'):=fun W hb=>numbers_any g B _ W (by have:=hb.size;omega) (hg.below (hb.mono hB)) hn1 hn2
 have HC2:Hid (∀ W,Below w.heap.size w W→Calls Tryz.prog 95 #[.agg #[.slice na g.nodes.length nc,.slice ra g.rels.length rc,.int .i64 g.nn,.int .i64 g.nr]] W fun e w'=>e=.returned (.bool (labelsB g.nodes))∧Below W.heap.size W w'):=fun W hb=>labels_any g B _ W (by have:=hb.size;omega) (HE.out.below hb HE.out.room) (hg.below (hb.mono hB)) hz
 have HC3:Hid (∀ W,Below w.heap.size w W→Calls Tryz.prog 96 #[.agg #[.slice na g.nodes.length nc,.slice ra g.rels.length rc,.int .i64 g.nn,.int .i64 g.nr]] W fun e w'=>e=.returned (.bool ((nodePropsB g.nodes&&relPropsB g.rels)))∧Below W.heap.size W w'):=fun W hb=>props_any g B _ W (by have:=hb.size;omega) (HE.out.below hb HE.out.room) (hg.below (hb.mono hB)) hz
 have HC4:Hid (∀ W,Below w.heap.size w W→Calls Tryz.prog 97 #[.agg #[.slice na g.nodes.length nc,.slice ra g.rels.length rc,.int .i64 g.nn,.int .i64 g.nr]] W fun e w'=>e=.returned (.bool (typesB g.rels))∧Below W.heap.size W w'):=fun W hb=>types_any g B _ W (by have:=hb.size;omega) (HE.out.below hb HE.out.room) (hg.below (hb.mono hB)) hz
 have HC5:Hid ((riseI g.nn 0 (g.nodes.map NodeP.id)&&riseI g.nr 0 (g.rels.map RelP.id))=true→∀ W,Below w.heap.size w W→Calls Tryz.prog 98 #[.agg #[.slice na g.nodes.length nc,.slice ra g.rels.length rc,.int .i64 g.nn,.int .i64 g.nr]] W fun e w'=>e=.returned (.bool (endsB (idsE g.nodes) g.rels))∧Below W.heap.size W w'):=fun hk W hb=>by
  have hk1:=riseI_all (Bool.and_eq_true_iff.1 hk).1
  exact ends_any g B _ W (by have:=hb.size;omega) (hg.below (hb.mono hB)) hk1.2 (fun n hn=>by
   have:=hk1.1 n.id (List.mem_map_of_mem hn)
   exact i64_of (by omega) (by omega)) hi2
 obtain ⟨b0,hb0⟩:∃ b,decide ((g.nodes.length:Int)+(g.rels.length:Int)≤65536)=b:=⟨_,rfl⟩
 obtain ⟨b1,hb1⟩:∃ b,(riseI g.nn 0 (g.nodes.map NodeP.id)&&riseI g.nr 0 (g.rels.map RelP.id))=b:=⟨_,rfl⟩
 obtain ⟨b2,hb2⟩:∃ b,labelsB g.nodes=b:=⟨_,rfl⟩
 obtain ⟨b3,hb3⟩:∃ b,(nodePropsB g.nodes&&relPropsB g.rels)=b:=⟨_,rfl⟩
 obtain ⟨b4,hb4⟩:∃ b,typesB g.rels=b:=⟨_,rfl⟩
 obtain ⟨b5,hb5⟩:∃ b,endsB (idsE g.nodes) g.rels=b:=⟨_,rfl⟩
 rw [hb0] at HC0
 rw [hb1] at HC1
 rw [hb2] at HC2
 rw [hb3] at HC3
 rw [hb4] at HC4
 rw [hb1,hb5] at HC5
 rw [hb0,hb1,hb2,hb3,hb4,hb5] at hres
 have HR:=hidE hres
 clear hb0 hb1 hb2 hb3 hb4 hb5 hres hg hz hn1 hn2 hi2
 obtain ⟨ns,rs,nn,nr⟩:=g
 simp only at HC0 HC1 HC2 HC3 HC4 HC5 ⊢
 generalize ns.length=n at *
 generalize rs.length=m at *
 go_enter Tryz.func11,Tryz.ntmps11
 go_upto_region 1 with fail
 generalize hW1:World.alloc _ _=W1
 have hr1:=rec_new w #[.slice na n nc,.slice ra m rc,.int .i64 nn,.int .i64 nr] 25
 rw [hW1] at hr1
 have HB1:Hid (Below w.heap.size w W1):=by rw [← hW1];exact (Below.refl _ _).alloc (Nat.le_refl _) _
 have HR1:=hidE hr1
 clear hW1 hr1
 go_wp2_with fail
 refine (rules_any _).mono ?_
 rintro e w2 ⟨rfl,hb2,ht2⟩
 have HC2w:=hidE hb2
 have HT:=hidE ht2
 obtain ⟨p,hp⟩:∃ p,W1.heap.size=p:=⟨_,rfl⟩
 have hpl:p<w2.heap.size:=by
  rw [← hp]
  exact lt_of_cell (ht2 0 _ rfl)
 rw [hp] at HT ⊢
 clear hb2 ht2 hp
 go_wp2_with fail
 go_loopw [7] (fun x wr=>∃ q:Nat,q≤6∧x=.int .i64 q∧Below w2.heap.size w2 wr∧(([b0,b1,b2,b3,b4,b5].drop q).all id)=res∧(2≤q→b1=true)) (fun x _=>6 - (intOf x).toNat)
 case atStart=>exact ⟨0,by omega,rfl,Below.refl _ _,by rw [← HR.out];simp,fun h=>by omega⟩
 case round =>
  obtain ⟨q,hq,rfl,hb,hrs,hq2⟩:=hrel
  have HB:=hidE hb
  have HRS:=hidE hrs
  have HQ2:=hidE hq2
  have HBW:=hidE (below_on HB1.out (below_on HC2w.out hb))
  have hrec:=HR1.out.below (below_on HC2w.out hb) HR1.out.lt
  have a0:=hrec.cell 0 rfl
  have a1:=hrec.cell 1 rfl
  have a2:=hrec.cell 2 rfl
  have a3:=hrec.cell 3 rfl
  clear hb hrs hq2 hrec
  have hcs:q=0∨q=1∨q=2∨q=3∨q=4∨q=5∨q=6:=by omega
  rcases hcs with rfl | rfl | rfl | rfl | rfl | rfl | rfl
  ·have k0:=cell_below HB.out (Nat.le_refl _) (HT.out 0 _ rfl)
   have HCX:=hidE (HC0.out wr HBW.out)
   go_wp2_with fail
   refine HCX.out.mono ?_
   rintro e w3 ⟨rfl,hb3⟩
   have HB3:=hidE (below_on HB.out hb3)
   have HBW3:=hidE (below_on HBW.out hb3)
   clear hb3 a0 a1 a2 a3 k0 HCX
   cases b0 with
   | false =>
    have HF:Hid (code=2):=by
     show _=_
     have e:res=false:=by rw [← HRS.out];rfl
     rw [← HCD.out,e];rfl
    go_wp2_with fail
    go_ret
    exact ⟨by rw [HF.out];rfl,HBW3.out⟩
   | true =>
    have HN2:=hidE HRS.out
    go_wp2_with fail
    go_roundw
    case rel=>exact ⟨1,by omega,rfl,HB3.out,HN2.out,fun h=>by omega⟩
    case measure=>simp [intOf]
  ·have k0:=cell_below HB.out (Nat.le_refl _) (HT.out 1 _ rfl)
   have HCX:=hidE (HC1.out wr HBW.out)
   go_wp2_with fail
   refine HCX.out.mono ?_
   rintro e w3 ⟨rfl,hb3⟩
   have HB3:=hidE (below_on HB.out hb3)
   have HBW3:=hidE (below_on HBW.out hb3)
   clear hb3 a0 a1 a2 a3 k0 HCX
   cases b1 with
   | false =>
    have HF:Hid (code=2):=by
     show _=_
     have e:res=false:=by rw [← HRS.out];rfl
     rw [← HCD.out,e];rfl
    go_wp2_with fail
    go_ret
    exact ⟨by rw [HF.out];rfl,HBW3.out⟩
   | true =>
    have HN2:=hidE HRS.out
    go_wp2_with fail
    go_roundw
    case rel=>exact ⟨2,by omega,rfl,HB3.out,HN2.out,fun h=>trivial⟩
    case measure=>simp [intOf]
  ·have k0:=cell_below HB.out (Nat.le_refl _) (HT.out 2 _ rfl)
   have HCX:=hidE (HC2.out wr HBW.out)
   go_wp2_with fail
   refine HCX.out.mono ?_
   rintro e w3 ⟨rfl,hb3⟩
   have HB3:=hidE (below_on HB.out hb3)
   have HBW3:=hidE (below_on HBW.out hb3)
   clear hb3 a0 a1 a2 a3 k0 HCX
   cases b2 with
   | false =>
    have HF:Hid (code=2):=by
     show _=_
     have e:res=false:=by rw [← HRS.out];rfl
     rw [← HCD.out,e];rfl
    go_wp2_with fail
    go_ret
    exact ⟨by rw [HF.out];rfl,HBW3.out⟩
   | true =>
    have HN2:=hidE HRS.out
    go_wp2_with fail
    go_roundw
    case rel=>exact ⟨3,by omega,rfl,HB3.out,HN2.out,fun h=>HQ2.out (by omega)⟩
    case measure=>simp [intOf]
  ·have k0:=cell_below HB.out (Nat.le_refl _) (HT.out 3 _ rfl)
   have HCX:=hidE (HC3.out wr HBW.out)
   go_wp2_with fail
   refine HCX.out.mono ?_
   rintro e w3 ⟨rfl,hb3⟩
   have HB3:=hidE (below_on HB.out hb3)
   have HBW3:=hidE (below_on HBW.out hb3)
   clear hb3 a0 a1 a2 a3 k0 HCX
   cases b3 with
   | false =>
    have HF:Hid (code=2):=by
     show _=_
     have e:res=false:=by rw [← HRS.out];rfl
     rw [← HCD.out,e];rfl
    go_wp2_with fail
    go_ret
    exact ⟨by rw [HF.out];rfl,HBW3.out⟩
   | true =>
    have HN2:=hidE HRS.out
    go_wp2_with fail
    go_roundw
    case rel=>exact ⟨4,by omega,rfl,HB3.out,HN2.out,fun h=>HQ2.out (by omega)⟩
    case measure=>simp [intOf]
  ·have k0:=cell_below HB.out (Nat.le_refl _) (HT.out 4 _ rfl)
   have HCX:=hidE (HC4.out wr HBW.out)
   go_wp2_with fail
   refine HCX.out.mono ?_
   rintro e w3 ⟨rfl,hb3⟩
   have HB3:=hidE (below_on HB.out hb3)
   have HBW3:=hidE (below_on HBW.out hb3)
   clear hb3 a0 a1 a2 a3 k0 HCX
   cases b4 with
   | false =>
    have HF:Hid (code=2):=by
     show _=_
     have e:res=false:=by rw [← HRS.out];rfl
     rw [← HCD.out,e];rfl
    go_wp2_with fail
    go_ret
    exact ⟨by rw [HF.out];rfl,HBW3.out⟩
   | true =>
    have HN2:=hidE HRS.out
    go_wp2_with fail
    go_roundw
    case rel=>exact ⟨5,by omega,rfl,HB3.out,HN2.out,fun h=>HQ2.out (by omega)⟩
    case measure=>simp [intOf]
  ·have k0:=cell_below HB.out (Nat.le_refl _) (HT.out 5 _ rfl)
   have HCX:=hidE (HC5.out (HQ2.out (by omega)) wr HBW.out)
   go_wp2_with fail
   refine HCX.out.mono ?_
   rintro e w3 ⟨rfl,hb3⟩
   have HB3:=hidE (below_on HB.out hb3)
   have HBW3:=hidE (below_on HBW.out hb3)
   clear hb3 a0 a1 a2 a3 k0 HCX
   cases b5 with
   | false =>
    have HF:Hid (code=2):=by
     show _=_
     have e:res=false:=by rw [← HRS.out];rfl
     rw [← HCD.out,e];rfl
    go_wp2_with fail
    go_ret
    exact ⟨by rw [HF.out];rfl,HBW3.out⟩
   | true =>
    have HN2:=hidE HRS.out
    go_wp2_with fail
    go_roundw
    case rel=>exact ⟨6,by omega,rfl,HB3.out,HN2.out,fun h=>HQ2.out (by omega)⟩
    case measure=>simp [intOf]
  ·have HF:Hid (code=0):=by
    show _=_
    have e:res=true:=by rw [← HRS.out];rfl
    rw [← HCD.out,e];rfl
   go_wp2_with fail
   go_ret
   exact ⟨by rw [HF.out];rfl,HBW.out⟩
end Go.Proofs.YteddjlbfbpecjaaGreatDoor

namespace Go.Proofs.YteddjlbfbpecjaaGreatDoor
open Go.RowKit Go.Shelf
set_option linter.unusedVariables false
set_option linter.unusedSimpArgs false
attribute [local go_sem] Oper.semAt_some
def attF (rs:List RelP):List (Int × List Int):=rs.foldl (fun L r=>addTo r.fr r.id L) []
def attT (rs:List RelP):List (Int × List Int):=rs.foldl (fun L r=>addTo r.tt r.id L) []
theorem attF_step {rs:List RelP} {j:Nat} {r:RelP} (h:rs[j]?=some r):attF (rs.take (j+1))=addTo r.fr r.id (attF (rs.take j)):=by
 unfold attF;rw [List.take_add_one,h];simp [List.foldl_append]
theorem attT_step {rs:List RelP} {j:Nat} {r:RelP} (h:rs[j]?=some r):attT (rs.take (j+1))=addTo r.tt r.id (attT (rs.take j)):=by
 unfold attT;rw [List.take_add_one,h];simp [List.foldl_append]
theorem att_keys (key:RelP→Int):∀ (rs:List RelP) (L:List (Int × List Int)),(L.map Prod.fst).Nodup→((rs.foldl (fun L r=>addTo (key r) r.id L) L).map Prod.fst).Nodup
 | [],L,h=>h
 | r::rs,L,h=>att_keys key rs _ (addTo_keys h)
theorem att_len (key:RelP→Int):∀ (rs:List RelP) (L:List (Int × List Int)) (n:Nat),(∀ q ∈ L,q.2.length≤n)→∀ q ∈ rs.foldl (fun L r=>addTo (key r) r.id L) L,q.2.length≤n+rs.length
 | [],L,n,h,q,hq=>h q hq
 | r::rs,L,n,h,q,hq=>by
  have:=att_len key rs _ (n+1) (addTo_len h) q hq
  simp only [List.length_cons]
  omega
theorem attF_len (rs:List RelP):∀ q ∈ attF rs,q.2.length≤rs.length:=fun q hq=>by
 have:=att_len RelP.fr rs [] 0 (fun q h=>by simp at h) q hq
 omega
theorem attT_len (rs:List RelP):∀ q ∈ attT rs,q.2.length≤rs.length:=fun q hq=>by
 have:=att_len RelP.tt rs [] 0 (fun q h=>by simp at h) q hq
 omega
structure Holds (b0:Nat) (g:GraphP) (p:GP) (B lo:Nat) (N R F T:List (Int × Value)) (w:World):Prop where
 low:b0≤B
 ok:p.Ok B
 lob:B≤lo∧lo≤w.heap.size∧p.g<lo∧p.n<lo∧p.r<lo∧p.f<lo∧p.t<lo
 gs:GS w p g.nn g.nr N R F T
 nodes:NodesE B w N g.nodes
 rels:RelsE B w R g.rels
 fr:Lists lo w F (attF g.rels)
 tt:Lists lo w T (attT g.rels)
 ap:Apart (F.map Prod.snd++T.map Prod.snd)
def Made (b0:Nat) (g:GraphP) (p:GP) (w:World):Prop:=∃ B lo N R F T,Holds b0 g p B lo N R F T w
inductive MakeTo (g:GraphP) (w:World):Ending→World→Prop
 | no {w'} (hc:checkPB g=false) (hb:Below w.heap.size w w'):MakeTo g w (.returned (.tuple #[.pointer none,.int .i64 2])) w'
 | yes {w'} (hc:checkPB g=true) (p:GP) (hm:Made w.heap.size g p w') (hb:Below w.heap.size w w'):MakeTo g w (.returned (.tuple #[p.val,.int .i64 0])) w'
structure MkJ (w:World) (cs:Array Value) (nn nr:Int) (ns:List NodeP) (rs done:List RelP) (p:GP) (B lo:Nat) (wr:World):Prop where
 box:Rec wr w.heap.size cs 25
 sz:w.heap.size<B
 keep:Below w.heap.size w wr
 hold:∃ N R F T,(w.heap.size≤B∧p.Ok B∧(B≤lo∧lo≤wr.heap.size∧p.g<lo∧p.n<lo∧p.r<lo∧p.f<lo∧p.t<lo))∧GS wr p nn nr N R F T∧NodesE B wr N ns∧RelsE B wr R rs∧Lists lo wr F (attF done)∧Lists lo wr T (attT done)∧Apart (F.map Prod.snd++T.map Prod.snd)
theorem MkJ.below {w:World} {cs:Array Value} {nn nr:Int} {ns:List NodeP} {rs done:List RelP} {p:GP} {B lo:Nat} {wr wz:World} (h:MkJ w cs nn nr ns rs done p B lo wr) (hb:Below wr.heap.size wr wz):MkJ w cs nn nr ns rs done p B lo wz:=by
 obtain ⟨N,R,F,T,⟨h1,h2,h3⟩,h4,h5,h6,h7,h8,h9⟩:=h.hold
 have hs:=hb.size
 exact ⟨h.box.below hb h.box.lt,h.sz,below_on h.keep hb,N,R,F,T,⟨h1,h2,h3.1,by omega,h3.2.2⟩,h4.below hb,h5.below (hb.mono (by omega)),h6.below (hb.mono (by omega)),h7.below hb,h8.below hb,h9⟩
theorem MkJ.out {w:World} {cs:Array Value} {nn nr:Int} {ns:List NodeP} {rs:List RelP} {p:GP} {B lo:Nat} {wr:World} (h:MkJ w cs nn nr ns rs rs p B lo wr):Made w.heap.size ⟨ns,rs,nn,nr⟩ p wr:=by
 obtain ⟨N,R,F,T,⟨h1,h2,h3⟩,h4,h5,h6,h7,h8,h9⟩:=h.hold
 exact ⟨B,lo,N,R,F,T,h1,h2,h3,h4,h5,h6,h7,h8,h9⟩
set_option maxRecDepth 100000 in
set_option maxHeartbeats 8000000 in
theorem make_any (g:GraphP) (B:Nat) (v:Value) (w:World) (hB:B≤w.heap.size) (hE:Env w) (hg:GraphLies B w v g) (hz:Mild g) (hn1:-9223372036854775808≤g.nn∧g.nn≤9223372036854775807) (hn2:-9223372036854775808≤g.nr∧g.nr≤9223372036854775807) (hi2:∀ r ∈ g.rels,I64 r.fr∧I64 r.tt)
  (ht:∀ x ∈ g.nodes,x.labels.length≤2000000∧x.props.length≤2000000∧∀ q ∈ x.props,q.2.total≤2000000) (hu:∀ x ∈ g.rels,x.props.length≤2000000∧∀ q ∈ x.props,q.2.total≤2000000) :
  Calls Tryz.prog 13 #[v] w (MakeTo g w):=by
 have hm3:∀ W:World,(Instr.makeMap 72 none).run Tryz.prog W=.ok (.map (some W.heap.size)) (W.alloc (.map #[] 0)):=fun W=>rfl
 obtain ⟨ok,hok⟩:∃ b,checkPB g=b:=⟨_,rfl⟩
 have HOK:=hidE hok
 have HC:=hidE (fun W (hb:Below w.heap.size w W)=>checkP_any g B v W (Nat.le_trans hB hb.size) (hE.below hb hE.room) (hg.below (hb.mono hB)) hz hn1 hn2 hi2)
 rw [hok] at HC
 have HY:=hidE (fun W (hb:Below w.heap.size w W)=>copyG_any g v B W (Nat.le_trans hB hb.size) (hg.below (hb.mono hB)) hz.nodes hz.rels ht hu)
 have HTY:=hidE hg.types
 have hid:ok=true→((g.nodes.map NodeP.id).Nodup∧(∀ n ∈ g.nodes,I64 n.id))∧(g.rels.map RelP.id).Nodup∧∀ r ∈ g.rels,I64 r.id:=fun e=>by
  rw [← hok] at e
  unfold checkPB at e
  simp only [Bool.and_eq_true] at e
  have h1:=riseI_all e.2.1.1
  have h2:=riseI_all e.2.1.2
  refine ⟨⟨h1.2,fun n hn=>?_⟩,h2.2,fun r hr=>?_⟩
  ·have:=h1.1 _ (List.mem_map.2 ⟨n,hn,rfl⟩);exact i64_of (by omega) (by omega)
  ·have:=h2.1 _ (List.mem_map.2 ⟨r,hr,rfl⟩);exact i64_of (by omega) (by omega)
 have HID:=hidE hid
 have HI2:=hidE hi2
 have hml:=hz.rels
 obtain ⟨na,nc,ra,rc,rfl,hn,hr⟩:=hg
 obtain ⟨ns,rs,nn,nr⟩:=g
 simp only at hr HC HY HTY HI2 hml
 clear hn hok hE hz hn1 hn2 hi2 ht hu hid
 obtain ⟨a',c',e2,r1,r2,hq3⟩:=hr
 obtain ⟨rfl,rfl⟩:ra=a'∧rc=c':=by injection e2 with e1 _ e2;exact ⟨e1,e2⟩
 have HQ:=hidE hq3
 obtain ⟨n,hn⟩:∃ n,ns.length=n:=⟨_,rfl⟩
 obtain ⟨m,hm⟩:∃ m,rs.length=m:=⟨_,rfl⟩
 have HM:=hidE hm
 rw [hm] at r1 hml
 rw [hn,hm] at HC HY
 simp only [hn,hm]
 clear hq3 hn hm e2
 go_enter Tryz.func13,Tryz.ntmps13
 go_upto_region 1 with fail
 generalize hW1:World.alloc _ _=W1
 have HB1:Hid (Below w.heap.size w W1):=by rw [← hW1];exact (Below.refl _ _).alloc (Nat.le_refl _) _
 have HR1:Hid (Rec W1 w.heap.size #[.slice na n nc,.slice ra m rc,.int .i64 nn,.int .i64 nr] 25):=by rw [← hW1];exact rec_new _ _ _
 clear hW1
 have a0:=HR1.out.cell 0 rfl
 have a1:=HR1.out.cell 1 rfl
 have a2:=HR1.out.cell 2 rfl
 have a3:=HR1.out.cell 3 rfl
 go_wp2_with fail
 refine (HC.out W1 HB1.out).mono ?_
 rintro e w2 ⟨rfl,hb2⟩
 have HB2:=hidE (below_on HB1.out hb2)
 have HR2:=hidE (HR1.out.below hb2 HR1.out.lt)
 clear hb2 a0 a1 a2 a3
 cases ok with
 | false =>
  go_wp2_with fail
  go_ret2
  exact .no HOK.out HB2.out
 | true =>
  obtain ⟨⟨d1,d2⟩,d3,d4⟩:=HID.out rfl
  have HD1:=hidE d1
  have HD2:=hidE d2
  have HD3:=hidE d3
  have HD4:=hidE d4
  clear d1 d2 d3 d4
  have a0:=HR2.out.cell 0 rfl
  have a1:=HR2.out.cell 1 rfl
  have a2:=HR2.out.cell 2 rfl
  have a3:=HR2.out.cell 3 rfl
  go_wp2_with fail
  refine (HY.out w2 HB2.out).mono ?_
  rintro e w3 ⟨v3,rfl,hgf,hb3⟩
  have HB3:=hidE (below_on HB2.out hb3)
  have HR3:=hidE (HR2.out.below hb3 HR2.out.lt)
  have HL3:=hidE (hgf.lie HTY.out)
  clear hb3 a0 a1 a2 a3 hgf
  have hvs:∃ x0 x1,v3=.agg #[x0,x1,.int .i64 nn,.int .i64 nr]:=by
   obtain ⟨a,b,c,d,e,_⟩:=HL3.out
   exact ⟨_,_,e⟩
  obtain ⟨x0,x1,rfl⟩:=hvs
  go_wp2_with fail
  refine (partsOf_any ⟨ns,rs,nn,nr⟩ w3.heap.size _ w3 (Nat.le_refl _) HL3.out HD1.out HD3.out HD2.out HD4.out).mono ?_
  rintro e w4 ⟨rfl,hb4,hpt⟩
  have HB4:=hidE (below_on HB3.out hb4)
  have HR4:=hidE (HR3.out.below hb4 HR3.out.lt)
  have HPT:=hidE hpt
  have hs3:w.heap.size<w3.heap.size:=HR3.out.lt
  have hs4:w3.heap.size+4≤w4.heap.size:=by
   obtain ⟨N,R,_,hr,_⟩:=hpt
   have:=hr.lt
   omega
  clear hb4 hpt HL3
  go_upto_region 5 with fail
  generalize hW5:World.alloc _ _=W5
  have hj:MkJ w #[.slice na n nc,.slice ra m rc,.int .i64 nn,.int .i64 nr] nn nr ns rs [] ⟨w4.heap.size+1+1,w3.heap.size+2,w3.heap.size+2+1,w4.heap.size,w4.heap.size+1⟩ w3.heap.size (w4.heap.size+1+1+1) W5:=by
   obtain ⟨N,R,hm1,hm2,hne,hre⟩:=HPT.out
   have hbw:Below w4.heap.size w4 W5:=by rw [← hW5];exact (((Below.refl _ _).alloc (Nat.le_refl _) _).alloc (by simp) _).alloc (by simp;omega) _
   refine ⟨HR4.out.below hbw HR4.out.lt,hs3,below_on HB4.out hbw,N,R,[],[],⟨Nat.le_of_lt hs3,⟨by simp only;omega,by simp only;omega,by simp only;omega,by simp only;omega,by simp only;omega,by simp only;omega,by simp only;omega,by simp only;omega,by simp only;omega,by simp only;omega,by simp only;omega,by simp only;omega,by simp only;omega,by simp only;omega,by simp only;omega⟩,?_⟩,?_,hne.below (hbw.mono (by omega)),hre.below (hbw.mono (by omega)),lists_none _ _,lists_none _ _,List.Pairwise.nil⟩
   ·refine ⟨by omega,?_,by simp only;omega,by simp only;omega,by simp only;omega,by simp only;omega,by simp only;omega⟩
    rw [← hW5];simp
   ·rw [← hW5]
    refine ⟨?_,?_,?_,?_,?_⟩
    ·have h:=rec_new ((w4.alloc (.map #[] 0)).alloc (.map #[] 0)) #[.map (some (w3.heap.size+2)),.map (some (w3.heap.size+2+1)),.int .i64 nn,.int .i64 nr,.map (some w4.heap.size),.map (some (w4.heap.size+1))] 74
     rw [World.size_alloc,World.size_alloc] at h
     exact h
    ·exact hm1.block (by rw [Below.heap_alloc _ _ _ (by simp;omega),Below.heap_alloc _ _ _ (by simp;omega),Below.heap_alloc _ _ _ (by omega)])
    ·exact hm2.block (by rw [Below.heap_alloc _ _ _ (by simp;omega),Below.heap_alloc _ _ _ (by simp;omega),Below.heap_alloc _ _ _ (by omega)])
    ·exact (mi_none w4).block (by rw [Below.heap_alloc _ _ _ (by simp only [World.size_alloc];omega),Below.heap_alloc _ _ _ (by simp only [World.size_alloc];omega)])
    ·have h:=mi_none (w4.alloc (.map #[] 0))
     rw [World.size_alloc] at h
     exact h.block (by rw [Below.heap_alloc _ _ _ (by simp only [World.size_alloc];omega)])
  have HJ:=hidE hj
  have a1:=hj.box.cell 1 rfl
  clear hW5 hj HPT HR4 HB4 hs4 hm3
  obtain ⟨P,hP⟩:∃ P:GP,(⟨w4.heap.size+1+1,w3.heap.size+2,w3.heap.size+2+1,w4.heap.size,w4.heap.size+1⟩:GP)=P:=⟨_,rfl⟩
  have HPV:Hid (P.g=w4.heap.size+1+1):=by rw [← hP];rfl
  rw [hP] at HJ
  clear hP
  obtain ⟨X,hX⟩:∃ X,w4.heap.size+1+1=X:=⟨_,rfl⟩
  rw [hX] at HPV ⊢
  rw [hX] at HJ
  obtain ⟨lo,hlo⟩:∃ l,X+1=l:=⟨_,rfl⟩
  rw [hlo] at HJ
  clear hX hlo
  have HVL:Hid (P.val=.pointer (some ⟨X,0,none⟩)):=by show _=_;unfold GP.val;rw [HPV.out]
  clear HPV
  obtain ⟨B3,hB3⟩:∃ b,w3.heap.size=b:=⟨_,rfl⟩
  rw [hB3] at HJ
  clear hs3 HR3 HB3 hB3
  go_wp2_with fail
  clear a1
  go_loopw [23] (fun i wr=>∃ j:Nat,j≤m∧i=.int .i64 j∧MkJ w #[.slice na n nc,.slice ra m rc,.int .i64 nn,.int .i64 nr] nn nr ns rs (rs.take j) P B3 lo wr) (fun i _=>m - (intOf i).toNat)
  case atStart=>exact ⟨0,Nat.zero_le _,rfl,HJ.out⟩
  case round =>
   obtain ⟨j,hj,rfl,hjr⟩:=hrel
   have HJR:=hidE hjr
   clear hjr HJ
   by_cases hlt:j<m
   ·have hlt':(j:Int)<m:=by omega
    obtain ⟨x,hx⟩:∃ q,rs[j]?=some q:=⟨_,List.getElem?_eq_getElem (by have:=HM.out;omega)⟩
    obtain ⟨bl,off,rfl,hbl,hc⟩:=HQ.out.resolve_left (by intro e;rw [e] at hx;simp at hx)
    obtain ⟨pv,⟨c0,c1,c2,c3,c4⟩,_,hp⟩:=(hc j _ hx).below (HJR.out.keep.mono hB) hbl
    obtain ⟨pa,pc,rfl,_,_,_⟩:=hp
    have hif:=HI2.out _ (List.mem_of_getElem? hx)
    have HAF:=hidE (attF_step hx)
    have HAT:=hidE (attT_step hx)
    clear hc hx
    obtain ⟨xi,fr,tt,ty,xp⟩:=x
    simp only at c0 c1 c2 c3 c4 hif HAF HAT
    go_upto_region 8 with fail
    generalize hW2:World.alloc _ _=W2
    have hr2:=rec_new wr #[.int .i64 xi,.int .i64 fr,.int .i64 tt,.string ty,.slice pa xp.length pc] 49
    rw [hW2] at hr2
    have HB2:Hid (Below wr.heap.size wr W2):=by rw [← hW2];exact (Below.refl _ _).alloc (Nat.le_refl _) _
    have k0:=hr2.cell 0 rfl
    have k1:=hr2.cell 1 rfl
    have k2:=hr2.cell 2 rfl
    have k3:=hr2.cell 3 rfl
    have k4:=hr2.cell 4 rfl
    have HJ2:=hidE (HJR.out.below HB2.out)
    clear hW2 hr2 c0 c1 c2 c3 c4
    obtain ⟨N,R,F,T,⟨g1,g2,g3⟩,g4,g5,g6,g7,g8,g9⟩:=HJ2.out.hold
    have hl1:∀ q ∈ attF (rs.take j),q.2.length≤3000000:=fun q hq=>by have:=attF_len _ q hq;rw [List.length_take] at this;omega
    have hl2:∀ q ∈ attT (rs.take j),q.2.length≤3000000:=fun q hq=>by have:=attT_len _ q hq;rw [List.length_take] at this;omega
    have hc:=attach_any g4 B3 lo g2 g3 _ _ g7 g8 (att_keys RelP.fr _ [] List.nodup_nil) (att_keys RelP.tt _ [] List.nodup_nil) g9 hl1 hl2 xi fr tt ty pa xp.length pc hif.1 hif.2
    rw [HVL.out] at hc
    have HC2:=hidE hc
    have HG5:=hidE g5
    have HG6:=hidE g6
    clear hc g4 g5 g6 g7 g8 g9 hl1 hl2
    go_wp2_with fail
    refine HC2.out.mono ?_
    rintro e w6 ⟨rfl,F',T',q1,q2,q3,q4,q5,q6,q7⟩
    have HJ6:Hid (MkJ w #[.slice na n nc,.slice (some ⟨bl,off,none⟩) m rc,.int .i64 nn,.int .i64 nr] nn nr ns rs (rs.take (j+1)) P B3 lo w6) :=
     ⟨HJ2.out.box.below q5 HJ2.out.sz,HJ2.out.sz,HJ2.out.keep.trans (q5.mono g1),N,R,F',T',⟨g1,g2,g3.1,by omega,g3.2.2⟩,q1,HG5.out.below q5,HG6.out.below q5,by rw [HAF.out];exact q2,by rw [HAT.out];exact q3,q4⟩
    clear q1 q2 q3 q4 q5 q6 q7 g1 g2 g3 k0 k1 k2 k3 k4
    go_wp2_with fail
    go_roundw
    case rel=>exact ⟨j+1,by omega,by go_num,HJ6.out⟩
    case measure=>simp [intOf];omega
   ·have hlt':¬ (j:Int)<m:=by omega
    have HJA:Hid (MkJ w #[.slice na n nc,.slice ra m rc,.int .i64 nn,.int .i64 nr] nn nr ns rs rs P B3 lo wr):=by
     have:=HJR.out
     rwa [List.take_of_length_le (by have:=HM.out;omega)] at this
    go_wp2_with fail
    go_ret2
    rw [← HVL.out]
    exact .yes HOK.out P HJA.out.out HJA.out.keep
end Go.Proofs.YteddjlbfbpecjaaGreatDoor

