/- A change is done to the parts of a graph. -/
import Derived.Test.YteddjlbfbpecjaaGreatDoorJoin30
import Derived.Test.YteddjlbfbpecjaaGreatDoorJoin15
import Derived.OpenShut
import Derived.SizedLaws
import Derived.ProofKit
import Derived.SliceStrings
import Derived.Deep.Slices
import Derived.Shelf.Small.Bits
import Derived.Ground.NamesProg
import Derived.Test.YteddjlbfbpecjaaGreatDoorProg
namespace Go.Proofs.YteddjlbfbpecjaaGreatDoor
section
open Go.RowKit Go.Shelf
set_option maxHeartbeats 8000000
set_option maxRecDepth 100000
set_option linter.all false
attribute [local go_sem] Oper.semAt_some
structure Ji  where
 kind:Int
 id:Int
 other:Int
 node:Zp
 rel:Jj
def doC (g:Zy) (c:Ji):Zy :=
 if c.kind=0 then ⟨Zcf Zp.id c.node g.nodes,g.rels,g.nn,g.nr⟩
 else if c.kind=1 then ⟨g.nodes,Zcf Jj.id c.rel g.rels,g.nn,g.nr⟩
 else if c.kind=2 then ⟨Zbc Zp.id c.id g.nodes,g.rels,g.nn,g.nr⟩
 else if c.kind=3 then ⟨g.nodes,Zbc Jj.id c.id g.rels,g.nn,g.nr⟩
 else if c.kind=4 then ⟨g.nodes,g.rels,c.id,c.other⟩ else g
theorem Zwd {g:Zy} {c:Ji} (h:c.kind=0):doC g c=⟨Zcf Zp.id c.node g.nodes,g.rels,g.nn,g.nr⟩:=by simp [doC,h]
theorem Zwe {g:Zy} {c:Ji} (h:c.kind=1):doC g c=⟨g.nodes,Zcf Jj.id c.rel g.rels,g.nn,g.nr⟩:=by simp [doC,h]
theorem Zwf {g:Zy} {c:Ji} (h:c.kind=2):doC g c=⟨Zbc Zp.id c.id g.nodes,g.rels,g.nn,g.nr⟩:=by simp [doC,h]
theorem Zwg {g:Zy} {c:Ji} (h:c.kind=3):doC g c=⟨g.nodes,Zbc Jj.id c.id g.rels,g.nn,g.nr⟩:=by simp [doC,h]
theorem Zwh {g:Zy} {c:Ji} (h:c.kind=4):doC g c=⟨g.nodes,g.rels,c.id,c.other⟩:=by simp [doC,h]
def Zcn (B:Nat) (w:World) (v:Value) (c:Ji):Prop:=∃ la lc pa pc qa qc,v=.agg #[.int .i64 c.kind,.int .i64 c.id,.int .i64 c.other,.int .i64 c.node.id,.slice la c.node.labels.length lc,.slice pa c.node.props.length pc,.int .i64 c.rel.id,.int .i64 c.rel.fr,.int .i64 c.rel.tt,.string c.rel.type,.slice qa c.rel.props.length qc]∧Zv B w (.agg #[.int .i64 c.node.id,.slice la c.node.labels.length lc,.slice pa c.node.props.length pc]) c.node∧Jc B w (.agg #[.int .i64 c.rel.id,.int .i64 c.rel.fr,.int .i64 c.rel.tt,.string c.rel.type,.slice qa c.rel.props.length qc]) c.rel∧c.rel.type.size≤maxLen
structure Zas (B:Nat) (p:GP) (g:Zy) (N R:List (Int × Value)) (w:World):Prop where
 ok:p.g≠p.n∧p.g≠p.r∧p.n≠p.r∧B≤p.g∧B≤p.n∧B≤p.r
 box:Rec w p.g #[.map (some p.n),.map (some p.r),.int .i64 g.nn,.int .i64 g.nr] 71
 n:MI w p.n N
 r:MI w p.r R
 mn:Zdh Zp.id (Zv B w) N g.nodes
 mr:Zdh Jj.id (Jc B w) R g.rels
theorem Zwi (c:Ji) (hk:c.kind=0) (g:Zy) (p:GP) (B:Nat) (v:Value) (w:World) (N R:List (Int × Value)) (h:Zas B p g N R w) (hB:B≤w.heap.size) (hc:Zcn B w v c) (hi:I64 c.id∧I64 c.node.id∧I64 c.rel.id) :
  Calls Tryz.prog 59 #[.pointer (some ⟨p.g,0,none⟩),v] w fun e w'=>e=.returned (.tuple #[])∧Below B w w'∧∃ N' R',Zas B p (doC g c) N' R' w':=by
 obtain ⟨la,lc,pa,pc,qa,qc,rfl,hcn,hcr,hct⟩:=hc
 have HH:=Zb h
 have HCN:=Zb hcn
 have HCR:=Zb hcr
 have HI:=Zb hi
 have HK:=Zb hk
 rw [hk]
 obtain ⟨hd1,hd2,hd3,hp1,hp2,hp3⟩:=h.ok
 clear h hcn hcr hct hi hk
 go_enter Tryz.func59,Tryz.ntmps59
 go_upto_region 1 with fail
 generalize hW1:World.alloc _ _=W1
 have hr:=Zl w #[.int .i64 0,.int .i64 c.id,.int .i64 c.other,.int .i64 c.node.id,.slice la c.node.labels.length lc,.slice pa c.node.props.length pc,.int .i64 c.rel.id,.int .i64 c.rel.fr,.int .i64 c.rel.tt,.string c.rel.type,.slice qa c.rel.props.length qc] 51
 rw [hW1] at hr
 have hb1:Below w.heap.size w W1:=by rw [← hW1];exact (Below.refl _ _).alloc (Nat.le_refl _) _
 have HB1:=Zb hb1
 have hbx:=HH.out.box.below hb1 HH.out.box.lt
 have HX:=Zb hbx
 have x0:=hr.cell 0 rfl
 have c0:=hbx.cell 0 rfl
 have HM:=Zb ((HH.out.n.below hb1 (Nat.le_refl _)).block (w':=W1.drew) rfl)
 have x1:=hr.cell 3 rfl
 have x2:=hr.cell 4 rfl
 have x3:=hr.cell 5 rfl
 obtain ⟨w2,N2,hup,hm2,hd2',hmem,ho2,hb2⟩:=Zy6 Tryz.underlying68' HM.out HH.out.mn.nd c.node.id (.agg #[.int .i64 c.node.id,.slice la c.node.labels.length lc,.slice pa c.node.props.length pc]) HI.out.2.1
 have HMM:=Zb hmem
 have HM2:=Zb hm2
 have HND:=Zb hd2'
 have HO2:=Zb ho2
 have HB2:Hid (Below B w w2):=(HB1.out.mono hB).trans ((show Below B W1 W1.drew from ⟨rfl,rfl,rfl,Nat.le_refl _,fun _ _=>rfl⟩).trans (hb2.mono hp2))
 clear hW1 hr hbx hb1 hm2 hd2' hmem ho2 hb2 HM
 go_upto_region 3 with fail
 go_region_with fail
 all_goals
  clear x0 x1 x2 x3 c0 hup
  go_wp2_with fail
  refine bodyPost_end (v:=.tuple #[]) (by simp [results,Tryz.results59,go_sem]) rfl ⟨rfl,HB2.out,N2,R,?_⟩
  rw [Zwd HK.out]
  exact ⟨HH.out.ok,HX.out.keep ((HO2.out _ hd1).trans rfl),HM2.out,(HH.out.r.below HB1.out (Nat.le_refl _)).block ((HO2.out _ (Ne.symm hd3)).trans rfl),(HH.out.mn.put c.node _ HCN.out HND.out HMM.out).turn fun v x h=>h.below HB2.out,HH.out.mr.turn fun v x h=>h.below HB2.out⟩
theorem Zwj (c:Ji) (hk:c.kind=1) (g:Zy) (p:GP) (B:Nat) (v:Value) (w:World) (N R:List (Int × Value)) (h:Zas B p g N R w) (hB:B≤w.heap.size) (hc:Zcn B w v c) (hi:I64 c.id∧I64 c.node.id∧I64 c.rel.id) :
  Calls Tryz.prog 59 #[.pointer (some ⟨p.g,0,none⟩),v] w fun e w'=>e=.returned (.tuple #[])∧Below B w w'∧∃ N' R',Zas B p (doC g c) N' R' w':=by
 obtain ⟨la,lc,pa,pc,qa,qc,rfl,hcn,hcr,hct⟩:=hc
 have HH:=Zb h
 have HCN:=Zb hcn
 have HCR:=Zb hcr
 have HI:=Zb hi
 have HK:=Zb hk
 rw [hk]
 obtain ⟨hd1,hd2,hd3,hp1,hp2,hp3⟩:=h.ok
 clear h hcn hcr hct hi hk
 go_enter Tryz.func59,Tryz.ntmps59
 go_upto_region 1 with fail
 generalize hW1:World.alloc _ _=W1
 have hr:=Zl w #[.int .i64 1,.int .i64 c.id,.int .i64 c.other,.int .i64 c.node.id,.slice la c.node.labels.length lc,.slice pa c.node.props.length pc,.int .i64 c.rel.id,.int .i64 c.rel.fr,.int .i64 c.rel.tt,.string c.rel.type,.slice qa c.rel.props.length qc] 51
 rw [hW1] at hr
 have hb1:Below w.heap.size w W1:=by rw [← hW1];exact (Below.refl _ _).alloc (Nat.le_refl _) _
 have HB1:=Zb hb1
 have hbx:=HH.out.box.below hb1 HH.out.box.lt
 have HX:=Zb hbx
 have x0:=hr.cell 0 rfl
 have c0:=hbx.cell 1 rfl
 have HM:=Zb ((HH.out.r.below hb1 (Nat.le_refl _)).block (w':=W1.drew) rfl)
 have x1:=hr.cell 6 rfl
 have x2:=hr.cell 7 rfl
 have x3:=hr.cell 8 rfl
 have x4:=hr.cell 9 rfl
 have x5:=hr.cell 10 rfl
 obtain ⟨w2,N2,hup,hm2,hd2',hmem,ho2,hb2⟩:=Zy6 Tryz.underlying69' HM.out HH.out.mr.nd c.rel.id (.agg #[.int .i64 c.rel.id,.int .i64 c.rel.fr,.int .i64 c.rel.tt,.string c.rel.type,.slice qa c.rel.props.length qc]) HI.out.2.2
 have HMM:=Zb hmem
 have HM2:=Zb hm2
 have HND:=Zb hd2'
 have HO2:=Zb ho2
 have HB2:Hid (Below B w w2):=(HB1.out.mono hB).trans ((show Below B W1 W1.drew from ⟨rfl,rfl,rfl,Nat.le_refl _,fun _ _=>rfl⟩).trans (hb2.mono hp3))
 clear hW1 hr hbx hb1 hm2 hd2' hmem ho2 hb2 HM
 go_upto_region 5 with fail
 go_region_with fail
 all_goals
  clear x0 x1 x2 x3 x4 x5 c0 hup
  go_wp2_with fail
  refine bodyPost_end (v:=.tuple #[]) (by simp [results,Tryz.results59,go_sem]) rfl ⟨rfl,HB2.out,N,N2,?_⟩
  rw [Zwe HK.out]
  exact ⟨HH.out.ok,HX.out.keep ((HO2.out _ hd2).trans rfl),(HH.out.n.below HB1.out (Nat.le_refl _)).block ((HO2.out _ hd3).trans rfl),HM2.out,HH.out.mn.turn fun v x h=>h.below HB2.out,(HH.out.mr.put c.rel _ HCR.out HND.out HMM.out).turn fun v x h=>h.below HB2.out⟩
theorem Zwk (c:Ji) (hk:c.kind=2) (g:Zy) (p:GP) (B:Nat) (v:Value) (w:World) (N R:List (Int × Value)) (h:Zas B p g N R w) (hB:B≤w.heap.size) (hc:Zcn B w v c) (hi:I64 c.id∧I64 c.node.id∧I64 c.rel.id) :
  Calls Tryz.prog 59 #[.pointer (some ⟨p.g,0,none⟩),v] w fun e w'=>e=.returned (.tuple #[])∧Below B w w'∧∃ N' R',Zas B p (doC g c) N' R' w':=by
 obtain ⟨la,lc,pa,pc,qa,qc,rfl,hcn,hcr,hct⟩:=hc
 have HH:=Zb h
 have HCN:=Zb hcn
 have HCR:=Zb hcr
 have HI:=Zb hi
 have HK:=Zb hk
 rw [hk]
 obtain ⟨hd1,hd2,hd3,hp1,hp2,hp3⟩:=h.ok
 clear h hcn hcr hct hi hk
 go_enter Tryz.func59,Tryz.ntmps59
 go_upto_region 1 with fail
 generalize hW1:World.alloc _ _=W1
 have hr:=Zl w #[.int .i64 2,.int .i64 c.id,.int .i64 c.other,.int .i64 c.node.id,.slice la c.node.labels.length lc,.slice pa c.node.props.length pc,.int .i64 c.rel.id,.int .i64 c.rel.fr,.int .i64 c.rel.tt,.string c.rel.type,.slice qa c.rel.props.length qc] 51
 rw [hW1] at hr
 have hb1:Below w.heap.size w W1:=by rw [← hW1];exact (Below.refl _ _).alloc (Nat.le_refl _) _
 have HB1:=Zb hb1
 have hbx:=HH.out.box.below hb1 HH.out.box.lt
 have HX:=Zb hbx
 have x0:=hr.cell 0 rfl
 have c0:=hbx.cell 0 rfl
 have HM:=Zb ((HH.out.n.below hb1 (Nat.le_refl _)).block (w':=W1.drew) rfl)
 have x1:=hr.cell 1 rfl
 obtain ⟨w2,N2,hup,hm2,hd2',hmem,ho2,hb2⟩:=Zy7 (ty:=0) Tryz.underlying68' HM.out HH.out.mn.nd c.id HI.out.1
 have HMM:=Zb hmem
 have HM2:=Zb hm2
 have HND:=Zb hd2'
 have HO2:=Zb ho2
 have HB2:Hid (Below B w w2):=(HB1.out.mono hB).trans ((show Below B W1 W1.drew from ⟨rfl,rfl,rfl,Nat.le_refl _,fun _ _=>rfl⟩).trans (hb2.mono hp2))
 clear hW1 hr hbx hb1 hm2 hd2' hmem ho2 hb2 HM
 go_upto_region 7 with fail
 go_region_with fail
 all_goals
  clear x0 x1 c0 hup
  go_wp2_with fail
  refine bodyPost_end (v:=.tuple #[]) (by simp [results,Tryz.results59,go_sem]) rfl ⟨rfl,HB2.out,N2,R,?_⟩
  rw [Zwf HK.out]
  exact ⟨HH.out.ok,HX.out.keep ((HO2.out _ hd1).trans rfl),HM2.out,(HH.out.r.below HB1.out (Nat.le_refl _)).block ((HO2.out _ (Ne.symm hd3)).trans rfl),(HH.out.mn.out c.id HND.out HMM.out).turn fun v x h=>h.below HB2.out,HH.out.mr.turn fun v x h=>h.below HB2.out⟩
theorem Zwl (c:Ji) (hk:c.kind=3) (g:Zy) (p:GP) (B:Nat) (v:Value) (w:World) (N R:List (Int × Value)) (h:Zas B p g N R w) (hB:B≤w.heap.size) (hc:Zcn B w v c) (hi:I64 c.id∧I64 c.node.id∧I64 c.rel.id) :
  Calls Tryz.prog 59 #[.pointer (some ⟨p.g,0,none⟩),v] w fun e w'=>e=.returned (.tuple #[])∧Below B w w'∧∃ N' R',Zas B p (doC g c) N' R' w':=by
 obtain ⟨la,lc,pa,pc,qa,qc,rfl,hcn,hcr,hct⟩:=hc
 have HH:=Zb h
 have HCN:=Zb hcn
 have HCR:=Zb hcr
 have HI:=Zb hi
 have HK:=Zb hk
 rw [hk]
 obtain ⟨hd1,hd2,hd3,hp1,hp2,hp3⟩:=h.ok
 clear h hcn hcr hct hi hk
 go_enter Tryz.func59,Tryz.ntmps59
 go_upto_region 1 with fail
 generalize hW1:World.alloc _ _=W1
 have hr:=Zl w #[.int .i64 3,.int .i64 c.id,.int .i64 c.other,.int .i64 c.node.id,.slice la c.node.labels.length lc,.slice pa c.node.props.length pc,.int .i64 c.rel.id,.int .i64 c.rel.fr,.int .i64 c.rel.tt,.string c.rel.type,.slice qa c.rel.props.length qc] 51
 rw [hW1] at hr
 have hb1:Below w.heap.size w W1:=by rw [← hW1];exact (Below.refl _ _).alloc (Nat.le_refl _) _
 have HB1:=Zb hb1
 have hbx:=HH.out.box.below hb1 HH.out.box.lt
 have HX:=Zb hbx
 have x0:=hr.cell 0 rfl
 have c0:=hbx.cell 1 rfl
 have HM:=Zb ((HH.out.r.below hb1 (Nat.le_refl _)).block (w':=W1.drew) rfl)
 have x1:=hr.cell 1 rfl
 obtain ⟨w2,N2,hup,hm2,hd2',hmem,ho2,hb2⟩:=Zy7 (ty:=0) Tryz.underlying69' HM.out HH.out.mr.nd c.id HI.out.1
 have HMM:=Zb hmem
 have HM2:=Zb hm2
 have HND:=Zb hd2'
 have HO2:=Zb ho2
 have HB2:Hid (Below B w w2):=(HB1.out.mono hB).trans ((show Below B W1 W1.drew from ⟨rfl,rfl,rfl,Nat.le_refl _,fun _ _=>rfl⟩).trans (hb2.mono hp3))
 clear hW1 hr hbx hb1 hm2 hd2' hmem ho2 hb2 HM
 go_upto_region 9 with fail
 go_region_with fail
 all_goals
  clear x0 x1 c0 hup
  go_wp2_with fail
  refine bodyPost_end (v:=.tuple #[]) (by simp [results,Tryz.results59,go_sem]) rfl ⟨rfl,HB2.out,N,N2,?_⟩
  rw [Zwg HK.out]
  exact ⟨HH.out.ok,HX.out.keep ((HO2.out _ hd2).trans rfl),(HH.out.n.below HB1.out (Nat.le_refl _)).block ((HO2.out _ hd3).trans rfl),HM2.out,HH.out.mn.turn fun v x h=>h.below HB2.out,(HH.out.mr.out c.id HND.out HMM.out).turn fun v x h=>h.below HB2.out⟩
theorem Zwm (c:Ji) (hk:c.kind=4) (g:Zy) (p:GP) (B:Nat) (v:Value) (w:World) (N R:List (Int × Value)) (h:Zas B p g N R w) (hB:B≤w.heap.size) (hc:Zcn B w v c) (hi:I64 c.id∧I64 c.node.id∧I64 c.rel.id) :
  Calls Tryz.prog 59 #[.pointer (some ⟨p.g,0,none⟩),v] w fun e w'=>e=.returned (.tuple #[])∧Below B w w'∧∃ N' R',Zas B p (doC g c) N' R' w':=by
 obtain ⟨la,lc,pa,pc,qa,qc,rfl,hcn,hcr,hct⟩:=hc
 have HH:=Zb h
 have HCN:=Zb hcn
 have HCR:=Zb hcr
 have HI:=Zb hi
 have HK:=Zb hk
 rw [hk]
 obtain ⟨hd1,hd2,hd3,hp1,hp2,hp3⟩:=h.ok
 clear h hcn hcr hct hi hk
 go_enter Tryz.func59,Tryz.ntmps59
 go_upto_region 1 with fail
 generalize hW1:World.alloc _ _=W1
 have hr:=Zl w #[.int .i64 4,.int .i64 c.id,.int .i64 c.other,.int .i64 c.node.id,.slice la c.node.labels.length lc,.slice pa c.node.props.length pc,.int .i64 c.rel.id,.int .i64 c.rel.fr,.int .i64 c.rel.tt,.string c.rel.type,.slice qa c.rel.props.length qc] 51
 rw [hW1] at hr
 have hb1:Below w.heap.size w W1:=by rw [← hW1];exact (Below.refl _ _).alloc (Nat.le_refl _) _
 have HB1:=Zb hb1
 have hbx:=HH.out.box.below hb1 HH.out.box.lt
 have HX:=Zb hbx
 have x0:=hr.cell 0 rfl
 have x1:=hr.cell 1 rfl
 have x2:=hr.cell 2 rfl
 have c2:=hbx.cell 2 rfl
 have c3:=hbx.cell 3 rfl
 have f2:=hbx.z 2
 have f3:=hbx.z 3
 have hne:w.heap.size≠p.g:=by have:=HH.out.box.lt;omega
 clear hW1 hr hbx hb1
 go_upto_region 11 with fail
 go_region_with fail
 all_goals
  clear x0 x1 x2 c2 c3 f2 f3
  generalize hWn:World.setCell _ _ _=Wn
  have HBn:Hid (Below B w Wn):=by rw [← hWn];exact ((HB1.out.mono hB).setCell (p:=⟨p.g,_,none⟩) hp1 _).setCell (p:=⟨p.g,_,none⟩) hp1 _
  have HRn:Hid (Rec Wn p.g #[.map (some p.n),.map (some p.r),.int .i64 c.id,.int .i64 c.other] 71):=by
   rw [← hWn]
   first | exact (HX.out.set 2 _).set 3 _ | exact (HX.out.set 3 _).set 2 _
  have HOn:Hid (∀ i,i≠p.g→Wn.heap[i]?=W1.heap[i]?):=fun i hi=>by rw [← hWn,Below.heap_setCell _ _ _ _ hi,Below.heap_setCell _ _ _ _ hi]
  clear hWn
  go_wp2_with fail
  refine bodyPost_end (v:=.tuple #[]) (by simp [results,Tryz.results59,go_sem]) rfl ⟨rfl,HBn.out.drew,N,R,?_⟩
  rw [Zwh HK.out]
  exact ⟨HH.out.ok,HRn.out,(HH.out.n.below HB1.out (Nat.le_refl _)).block (HOn.out _ (Ne.symm hd1)),(HH.out.r.below HB1.out (Nat.le_refl _)).block (HOn.out _ (Ne.symm hd2)),HH.out.mn.turn fun v x h=>h.below HBn.out.drew,HH.out.mr.turn fun v x h=>h.below HBn.out.drew⟩
theorem Zql (c:Ji) (hk:0≤c.kind∧c.kind≤4) (g:Zy) (p:GP) (B:Nat) (v:Value) (w:World) (N R:List (Int × Value)) (h:Zas B p g N R w) (hB:B≤w.heap.size) (hc:Zcn B w v c) (hi:I64 c.id∧I64 c.node.id∧I64 c.rel.id) :
  Calls Tryz.prog 59 #[.pointer (some ⟨p.g,0,none⟩),v] w fun e w'=>e=.returned (.tuple #[])∧Below B w w'∧∃ N' R',Zas B p (doC g c) N' R' w':=by
 have:c.kind=0∨c.kind=1∨c.kind=2∨c.kind=3∨c.kind=4:=by omega
 rcases this with e | e | e | e | e
 ·exact Zwi c e g p B v w N R h hB hc hi
 ·exact Zwj c e g p B v w N R h hB hc hi
 ·exact Zwk c e g p B v w N R h hB hc hi
 ·exact Zwl c e g p B v w N R h hB hc hi
 ·exact Zwm c e g p B v w N R h hB hc hi
end
section
open Go.RowKit Go.Shelf
set_option maxHeartbeats 4000000
set_option maxRecDepth 100000
set_option linter.all false
attribute [local go_sem] Oper.semAt_some
def Zaz (c:Ji):Bool:=decide (c.kind<0)||decide (4<c.kind)
def Za0 (B:Nat) (w:World) (a:Option Addr) (cs:List Ji):Prop:=∀ i c,cs[i]?=some c→∃ bl off la lc pa pc qa qc,a=some ⟨bl,off,none⟩∧bl<B∧(w.cell? ⟨bl,off+i*11,none⟩=some (.int .i64 c.kind)∧w.cell? ⟨bl,off+i*11+1,none⟩=some (.int .i64 c.id)∧w.cell? ⟨bl,off+i*11+2,none⟩=some (.int .i64 c.other)∧w.cell? ⟨bl,off+i*11+3,none⟩=some (.int .i64 c.node.id)∧w.cell? ⟨bl,off+i*11+4,none⟩=some (.slice la c.node.labels.length lc)∧w.cell? ⟨bl,off+i*11+5,none⟩=some (.slice pa c.node.props.length pc)∧w.cell? ⟨bl,off+i*11+6,none⟩=some (.int .i64 c.rel.id)∧w.cell? ⟨bl,off+i*11+7,none⟩=some (.int .i64 c.rel.fr)∧w.cell? ⟨bl,off+i*11+8,none⟩=some (.int .i64 c.rel.tt)∧w.cell? ⟨bl,off+i*11+9,none⟩=some (.string c.rel.type)∧w.cell? ⟨bl,off+i*11+10,none⟩=some (.slice qa c.rel.props.length qc))∧Zv B w (.agg #[.int .i64 c.node.id,.slice la c.node.labels.length lc,.slice pa c.node.props.length pc]) c.node∧Jc B w (.agg #[.int .i64 c.rel.id,.int .i64 c.rel.fr,.int .i64 c.rel.tt,.string c.rel.type,.slice qa c.rel.props.length qc]) c.rel∧c.rel.type.size≤maxLen
theorem Za0.below {B:Nat} {w w':World} {a:Option Addr} {cs:List Ji} (h:Za0 B w a cs) (hb:Below B w w'):Za0 B w' a cs:=fun i c hc=>by
 obtain ⟨bl,off,la,lc,pa,pc,qa,qc,e,hl,⟨c0,c1,c2,c3,c4,c5,c6,c7,c8,c9,c10⟩,h1,h2,h3⟩:=h i c hc
 have k:∀ o,w'.cell? ⟨bl,o,none⟩=w.cell? ⟨bl,o,none⟩:=fun o=>hb.cell (p:=⟨bl,o,none⟩) hl
 exact ⟨bl,off,la,lc,pa,pc,qa,qc,e,hl,⟨(k _).trans c0,(k _).trans c1,(k _).trans c2,(k _).trans c3,(k _).trans c4,(k _).trans c5,(k _).trans c6,(k _).trans c7,(k _).trans c8,(k _).trans c9,(k _).trans c10⟩,h1.below hb,h2.below hb,h3⟩
theorem Zlb (c:Ji) (la pa qa:Option Addr) (ll lc pl pc ql qc:Nat) (w:World):Calls Tryz.prog 58 #[.agg #[.int .i64 c.kind,.int .i64 c.id,.int .i64 c.other,.int .i64 c.node.id,.slice la ll lc,.slice pa pl pc,.int .i64 c.rel.id,.int .i64 c.rel.fr,.int .i64 c.rel.tt,.string c.rel.type,.slice qa ql qc]] w fun e w'=>e=.returned (.bool (Zaz c))∧Below w.heap.size w w':=by
 obtain ⟨b,hb⟩:∃ b,Zaz c=b:=⟨_,rfl⟩
 rw [hb]
 unfold Zaz at hb
 obtain ⟨kd,hkd⟩:∃ k,c.kind=k:=⟨_,rfl⟩
 rw [hkd] at hb ⊢
 have HBB:=Zb hb
 clear hb hkd
 go_enter Tryz.func58,Tryz.ntmps58
 go_upto_region 1 with fail
 generalize hW1:World.alloc _ _=W1
 have hr:=Zl w #[.int .i64 kd,.int .i64 c.id,.int .i64 c.other,.int .i64 c.node.id,.slice la ll lc,.slice pa pl pc,.int .i64 c.rel.id,.int .i64 c.rel.fr,.int .i64 c.rel.tt,.string c.rel.type,.slice qa ql qc] 51
 rw [hW1] at hr
 have HB1:Hid (Below w.heap.size w W1):=by rw [← hW1];exact (Below.refl _ _).alloc (Nat.le_refl _) _
 have x0:=hr.cell 0 rfl
 clear hW1 hr
 by_cases h1:kd<0
 ·go_wp2_with fail
  go_ret
  exact ⟨by rw [← HBB.out];simp [h1],HB1.out⟩
 ·by_cases h2:4<kd
  ·go_wp2_with fail
   go_ret
   exact ⟨by rw [← HBB.out];simp [h1,h2],HB1.out⟩
  ·go_wp2_with fail
   go_ret
   exact ⟨by rw [← HBB.out];simp [h1,h2],HB1.out⟩
def ixC  : List Ji→Nat→Int
 | [],_=>-1
 | c::r,j=>if Zaz c=true then j else ixC r (j+1)
theorem Zyt {cs:List Ji} {j:Nat} {c:Ji} (h:cs[j]?=some c):ixC (cs.drop j) j=if Zaz c=true then (j:Int) else ixC (cs.drop (j+1)) (j+1):=by
 obtain ⟨hj,hx⟩:=List.getElem?_eq_some_iff.1 h
 rw [List.drop_eq_getElem_cons hj,hx,ixC]
theorem Zrq  : ∀ (cs:List Ji) (j:Nat),decide (ixC cs j≥0)=cs.any Zaz
 | [],j=>by simp [ixC]
 | c::r,j=>by
  rw [ixC,List.any_cons]
  by_cases h:Zaz c=true
  ·rw [if_pos h,h];simp
  ·rw [if_neg h,Zrq r (j+1)];simp [h]
theorem Zp8 (cs:List Ji) (a:Option Addr) (cap B:Nat) (w:World) (hB:B≤w.heap.size) (hcap:cs.length≤cap) (hcap2:cap≤9223372036854775807) (hc:Za0 B w a cs) :
  Calls Tryz.prog 113 #[.slice a cs.length cap,.func (.func 58) #[] #[]] w fun e w'=>e=.returned (.int .i64 (ixC cs 0))∧Below w.heap.size w w':=by
 obtain ⟨res,hres⟩:∃ r,ixC cs 0=r:=⟨_,rfl⟩
 rw [hres]
 have HC:=Zb hc
 have HR:=Zb hres
 clear hc hres
 go_enter Tryz.func113,Tryz.ntmps113
 go_wp2_with fail
 go_loopw [8] (fun i wr=>∃ j:Nat,j≤cs.length∧i=.int .i64 j∧Below w.heap.size w wr∧ixC (cs.drop j) j=res) (fun i _=>cs.length - (intOf i).toNat)
 case atStart=>exact ⟨0,Nat.zero_le _,rfl,Below.refl _ _,HR.out⟩
 case round =>
  obtain ⟨j,hj,rfl,hbr,hre⟩:=hrel
  have HBR:=Zb hbr
  have HRE:=Zb hre
  clear hbr hre HR
  by_cases hlt:j<cs.length
  ·obtain ⟨c,hx⟩:∃ q,cs[j]?=some q:=⟨_,List.getElem?_eq_getElem hlt⟩
   have HX:=Zb hx
   obtain ⟨bl,off,la,lc,pa,pc,qa,qc,rfl,hl,⟨c0,c1,c2,c3,c4,c5,c6,c7,c8,c9,c10⟩,h1,h2,h3⟩:=(HC.out.below (HBR.out.mono hB)) j c hx
   have HO:=Zb (Zlb c la pa qa c.node.labels.length lc c.node.props.length pc c.rel.props.length qc wr)
   clear hx h1 h2 h3
   obtain ⟨nb,hnb⟩:∃ b,Zaz c=b:=⟨_,rfl⟩
   rw [hnb] at HO
   have HN:=Zb hnb
   clear hnb
   cases nb with
   | true =>
    go_wp2_with fail
    refine HO.out.mono ?_
    rintro e w2 ⟨rfl,hb2⟩
    have HB2:=Zb (Za HBR.out hb2)
    have HJ:Hid (res=(j:Int)):=by
     have:=HRE.out
     rw [Zyt HX.out,HN.out,if_pos rfl] at this
     exact this.symm
    clear hb2 c0 c1 c2 c3 c4 c5 c6 c7 c8 c9 c10 HO
    go_wp2_with fail
    go_ret
    exact ⟨by rw [HJ.out];rfl,HB2.out⟩
   | false =>
    go_wp2_with fail
    refine HO.out.mono ?_
    rintro e w2 ⟨rfl,hb2⟩
    have HB2:=Zb (Za HBR.out hb2)
    have HJ:Hid (ixC (cs.drop (j+1)) (j+1)=res):=by
     have:=HRE.out
     rw [Zyt HX.out,HN.out,if_neg (by simp)] at this
     exact this
    clear hb2 c0 c1 c2 c3 c4 c5 c6 c7 c8 c9 c10 HO
    go_wp2_with fail
    go_roundw
    case rel=>exact ⟨j+1,by omega,by go_num,HB2.out,HJ.out⟩
    case measure=>simp [intOf];omega
  ·have HJ:Hid (res=-1):=by
    have:=HRE.out
    rw [List.drop_of_length_le (by omega),ixC] at this
    exact this.symm
   go_wp2_with fail
   go_ret
   exact ⟨by rw [HJ.out];rfl,HBR.out⟩
theorem Zlc (cs:List Ji) (a:Option Addr) (cap B:Nat) (w:World) (hB:B≤w.heap.size) (hcap:cs.length≤cap) (hcap2:cap≤9223372036854775807) (hc:Za0 B w a cs) :
  Calls Tryz.prog 57 #[.slice a cs.length cap,.func (.func 58) #[] #[]] w fun e w'=>e=.returned (.bool (cs.any Zaz))∧Below w.heap.size w w':=by
 have HI:=Zb (Zp8 cs a cap B w hB hcap hcap2 hc)
 have HA:=Zb (Zrq cs 0)
 obtain ⟨z,hz⟩:∃ z,ixC cs 0=z:=⟨_,rfl⟩
 obtain ⟨b,hb⟩:∃ b,cs.any Zaz=b:=⟨_,rfl⟩
 rw [hz] at HI HA
 rw [hb] at HA ⊢
 clear hz hb hc
 go_enter Tryz.func57,Tryz.ntmps57
 go_wp2_with fail
 refine HI.out.mono ?_
 rintro e w2 ⟨rfl,hb2⟩
 have HB2:=Zb hb2
 clear hb2 HI
 go_wp2_with fail
 go_ret
 exact ⟨by rw [← HA.out];rfl,HB2.out⟩
end
section
open Go.ChangeShapes Go.WideShapes Go.ChangeAt Go.RowKit Go.Shelf Go.Deep
set_option linter.all false
theorem Znf  : Tryz.prog.cellsOf 60=6:=by kernel_rfl
theorem Zzy  : Tryz.prog.cellsOf 58=1:=by kernel_rfl
theorem Zs1  : Tryz.prog.cellsOf 44=1:=by kernel_rfl
theorem Zzz  : Tryz.prog.cellsOf 57=1:=by kernel_rfl
theorem Zow  : Tryz.prog.cellsOf 9=1:=by kernel_rfl
theorem Jbx  : Tryz.prog.cellsOf 4=1:=by kernel_rfl
theorem Zft  : Tryz.prog.cellsOf 2=1:=by kernel_rfl
section
variable {H:Type} {enc:TypeId × Value→H} {W:World}
theorem Zs2 {B bl:Nat} {w:World}:∀ (l:List Zk) (off:Nat),(∀ (i:Nat) (t:Zk),l[i]?=some t→∃ v0 v1 v2 v3 v4 v5,(w.cell? ⟨bl,off+i*6,none⟩=some v0∧w.cell? ⟨bl,off+i*6+1,none⟩=some v1∧w.cell? ⟨bl,off+i*6+2,none⟩=some v2∧w.cell? ⟨bl,off+i*6+3,none⟩=some v3 ∧
   w.cell? ⟨bl,off+i*6+4,none⟩=some v4∧w.cell? ⟨bl,off+i*6+5,none⟩=some v5)∧Zaw B w (.agg #[v0,v1,v2,v3,v4,v5]) t)→KidsLie B w bl off l
 | [],off,h=>by simp only [KidsLie]
 | t::l,off,h=>by
  rw [KidsLie]
  refine ⟨?_,Zs2 l (off+6) fun i u hu=>?_⟩
  ·have:=h 0 t rfl
   simpa using this
  ·have:=h (i+1) u (by simpa using hu)
   have e:off+(i+1)*6=off+6+i*6:=by omega
   rwa [e] at this
theorem Zs3  : ∀ (l:List Zk),(∀ t ∈ l,Zj6 t)→SaneL l
 | [],_=>by simp only [SaneL]
 | t::l,h=>by
  rw [SaneL]
  exact ⟨h t (by simp),Zs3 l fun u hu=>h u (by simp [hu])⟩
end
end
section
open Go.Shelf
def Tryz.lays125_ren  : Go.Shelf.Ren:=⟨fun | 125=>167 | 128=>202 | 129=>203 | n=>n,fun | 46=>200 | 3=>3 | 51=>234 | 53=>236 | 4=>4 | 5=>5 | 9=>9 | n=>n,fun | n=>n⟩
theorem Tryz.lays125  : Go.Proofs.Lays.n125 Tryz.prog Tryz.lays125_ren:={
 mixed:=by kernel_rfl
 f125:=Tryz.func167.trans (congrArg some (by kernel_rfl))
 f128:=Tryz.func202.trans (congrArg some (by kernel_rfl))
 f129:=Tryz.func203.trans (congrArg some (by kernel_rfl))
 t3:=Tryz.underlying3
 a3:=Tryz.isAgg3
 z3:=Tryz.sizeOf3
 v3:=Tryz.zeroValue3
 t4:=Tryz.underlying4
 a4:=Tryz.isAgg4
 z4:=Tryz.sizeOf4
 v4:=Tryz.zeroValue4
 t5:=Tryz.underlying5
 a5:=Tryz.isAgg5
 z5:=Tryz.sizeOf5
 v5:=Tryz.zeroValue5
 t9:=Tryz.underlying9
 a9:=Tryz.isAgg9
 z9:=Tryz.sizeOf9
 v9:=Tryz.zeroValue9
 t46:=Tryz.underlying200
 a46:=Tryz.isAgg200
 z46:=Tryz.sizeOf200
 v46:=Tryz.zeroValue200
 t51:=Tryz.underlying234
 a51:=Tryz.isAgg234
 z51:=Tryz.sizeOf234
 v51:=Tryz.zeroValue234
 t53:=Tryz.underlying236
 a53:=Tryz.isAgg236
 z53:=Tryz.sizeOf236
 v53:=Tryz.zeroValue236 }
theorem Tryz.bits_Len (x:Int) (w:World) (h0:0≤x) (h1:x≤18446744073709551615) :
  Calls Tryz.prog 167 #[.int .u64 x] w fun e w'=>e=.returned (.int .i64 (Lib.bitLen x.toNat))∧w'=w:=Any.bits_Len Tryz.lays125 x w h0 h1
end
