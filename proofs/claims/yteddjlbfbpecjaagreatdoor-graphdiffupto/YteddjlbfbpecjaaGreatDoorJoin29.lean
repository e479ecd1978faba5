import Derived.Test.YteddjlbfbpecjaaGreatDoorJoin28
import Derived.OpenShut
import Derived.SizedLaws
import Derived.ProofKit
import Derived.SliceStrings
import Derived.Deep.Slices
import Derived.Shelf.Small.Bits
namespace Go.Proofs.YteddjlbfbpecjaaGreatDoor
set_option maxHeartbeats 8000000
set_option maxRecDepth 100000
set_option linter.all false
section
open Go.RowKit Go.Shelf
attribute [local go_sem] Oper.semAt_some
structure Zs  where
 kind:Int
 id:Int
 other:Int
 node:Zo
 rel:Jg
def doC (g:Zt) (c:Zs):Zt :=
 if c.kind=0 then ⟨Zid Zo.id c.node g.nodes,g.rels,g.nn,g.nr⟩
 else if c.kind=1 then ⟨g.nodes,Zid Jg.id c.rel g.rels,g.nn,g.nr⟩
 else if c.kind=2 then ⟨Zfc Zo.id c.id g.nodes,g.rels,g.nn,g.nr⟩
 else if c.kind=3 then ⟨g.nodes,Zfc Jg.id c.id g.rels,g.nn,g.nr⟩
 else if c.kind=4 then ⟨g.nodes,g.rels,c.id,c.other⟩ else g
theorem Jie {g:Zt} {c:Zs} (h:c.kind=0):doC g c=⟨Zid Zo.id c.node g.nodes,g.rels,g.nn,g.nr⟩:=by simp [doC,h]
theorem Jif {g:Zt} {c:Zs} (h:c.kind=1):doC g c=⟨g.nodes,Zid Jg.id c.rel g.rels,g.nn,g.nr⟩:=by simp [doC,h]
theorem Jig {g:Zt} {c:Zs} (h:c.kind=2):doC g c=⟨Zfc Zo.id c.id g.nodes,g.rels,g.nn,g.nr⟩:=by simp [doC,h]
theorem Jih {g:Zt} {c:Zs} (h:c.kind=3):doC g c=⟨g.nodes,Zfc Jg.id c.id g.rels,g.nn,g.nr⟩:=by simp [doC,h]
theorem Jii {g:Zt} {c:Zs} (h:c.kind=4):doC g c=⟨g.nodes,g.rels,c.id,c.other⟩:=by simp [doC,h]
def Zbs (B:Nat) (w:World) (v:Value) (c:Zs):Prop:=∃ la lc pa W T U,v=.agg #[.int .i64 c.kind,.int .i64 c.id,.int .i64 c.other,.int .i64 c.node.id,.slice la c.node.labels.length lc,.slice pa c.node.props.length W,.int .i64 c.rel.id,.int .i64 c.rel.fr,.int .i64 c.rel.tt,.string c.rel.type,.slice T c.rel.props.length U]/\Ja B w (.agg #[.int .i64 c.node.id,.slice la c.node.labels.length lc,.slice pa c.node.props.length W]) c.node/\Ji B w (.agg #[.int .i64 c.rel.id,.int .i64 c.rel.fr,.int .i64 c.rel.tt,.string c.rel.type,.slice T c.rel.props.length U]) c.rel/\c.rel.type.size<=maxLen
structure Zaz (B:Nat) (p:GP) (g:Zt) (N R:List (Int × Value)) (w:World):Prop where
 ok:p.g≠p.n/\p.g≠p.r/\p.n≠p.r/\B<=p.g/\B<=p.n/\B<=p.r
 box:Rec w p.g #[.map (some p.n),.map (some p.r),.int .i64 g.nn,.int .i64 g.nr] 71
 n:MI w p.n N
 r:MI w p.r R
 mn:Zdu Zo.id (Ja B w) N g.nodes
 mr:Zdu Jg.id (Ji B w) R g.rels
theorem Zzh (c:Zs) (F:c.kind=0) (g:Zt) (p:GP) (B:Nat) (v:Value) (w:World) (N R:List (Int × Value)) (h:Zaz B p g N R w) (O:B<=w.heap.size) (L:Zbs B w v c) (C:I64 c.id/\I64 c.node.id/\I64 c.rel.id) :
  Calls Tryz.prog 59 #[.pointer (some ⟨p.g,0,none⟩),v] w fun e w'=>e=.returned (.tuple #[])/\Below B w w'/\∃ N' R',Zaz B p (doC g c) N' R' w':=by
 obtain ⟨la,lc,pa,W,T,U,rfl,t,s,G⟩:=L
 have f:=Zb h
 have a1:=Zb t
 have a0:=Zb s
 have HI:=Zb C
 have HK:=Zb F
 rw [F]
 obtain ⟨Q,P,H,Y,X,V⟩:=h.ok
 clear h t s G C F
 go_enter Tryz.func59,Tryz.ntmps59
 go_upto_region 1 with fail
 generalize j:World.alloc _ _=W1
 have m:=Zl w #[.int .i64 0,.int .i64 c.id,.int .i64 c.other,.int .i64 c.node.id,.slice la c.node.labels.length lc,.slice pa c.node.props.length W,.int .i64 c.rel.id,.int .i64 c.rel.fr,.int .i64 c.rel.tt,.string c.rel.type,.slice T c.rel.props.length U] 51
 rw [j] at m
 have b:Below w.heap.size w W1:=by rw [<- j];exact (Below.refl _ _).alloc (Nat.le_refl _) _
 have o:=Zb b
 have d:=f.out.box.below b f.out.box.lt
 have HX:=Zb d
 have x0:=m.cell 0 rfl
 have c0:=d.cell 0 rfl
 have HM:=Zb ((f.out.n.below b (Nat.le_refl _)).block (w':=W1.drew) rfl)
 have x1:=m.cell 3 rfl
 have x2:=m.cell 4 rfl
 have x3:=m.cell 5 rfl
 obtain ⟨w2,N2,K,y,k,l,E,u⟩:=Jb7 Tryz.underlying68' HM.out f.out.mn.nd c.node.id (.agg #[.int .i64 c.node.id,.slice la c.node.labels.length lc,.slice pa c.node.props.length W]) HI.out.2.1
 have M:=Zb l
 have I:=Zb y
 have S:=Zb k
 have D:=Zb E
 have q:Hid (Below B w w2):=(o.out.mono O).trans ((show Below B W1 W1.drew from ⟨rfl,rfl,rfl,Nat.le_refl _,fun _ _=>rfl⟩).trans (u.mono X))
 clear j m d b y k l E u HM
 go_upto_region 3 with fail
 go_region_with fail
 all_goals
  clear x0 x1 x2 x3 c0 K
  go_wp2_with fail
  refine bodyPost_end (v:=.tuple #[]) (by simp [results,Tryz.results59,go_sem]) rfl ⟨rfl,q.out,N2,R,?_⟩
  rw [Jie HK.out]
  exact ⟨f.out.ok,HX.out.keep ((D.out _ Q).trans rfl),I.out,(f.out.r.below o.out (Nat.le_refl _)).block ((D.out _ (Ne.symm H)).trans rfl),(f.out.mn.put c.node _ a1.out S.out M.out).turn fun v x h=>h.below q.out,f.out.mr.turn fun v x h=>h.below q.out⟩
theorem Zzi (c:Zs) (F:c.kind=1) (g:Zt) (p:GP) (B:Nat) (v:Value) (w:World) (N R:List (Int × Value)) (h:Zaz B p g N R w) (O:B<=w.heap.size) (L:Zbs B w v c) (C:I64 c.id/\I64 c.node.id/\I64 c.rel.id) :
  Calls Tryz.prog 59 #[.pointer (some ⟨p.g,0,none⟩),v] w fun e w'=>e=.returned (.tuple #[])/\Below B w w'/\∃ N' R',Zaz B p (doC g c) N' R' w':=by
 obtain ⟨la,lc,pa,W,T,U,rfl,t,s,G⟩:=L
 have f:=Zb h
 have a1:=Zb t
 have a0:=Zb s
 have HI:=Zb C
 have HK:=Zb F
 rw [F]
 obtain ⟨Q,P,H,Y,X,V⟩:=h.ok
 clear h t s G C F
 go_enter Tryz.func59,Tryz.ntmps59
 go_upto_region 1 with fail
 generalize j:World.alloc _ _=W1
 have m:=Zl w #[.int .i64 1,.int .i64 c.id,.int .i64 c.other,.int .i64 c.node.id,.slice la c.node.labels.length lc,.slice pa c.node.props.length W,.int .i64 c.rel.id,.int .i64 c.rel.fr,.int .i64 c.rel.tt,.string c.rel.type,.slice T c.rel.props.length U] 51
 rw [j] at m
 have b:Below w.heap.size w W1:=by rw [<- j];exact (Below.refl _ _).alloc (Nat.le_refl _) _
 have o:=Zb b
 have d:=f.out.box.below b f.out.box.lt
 have HX:=Zb d
 have x0:=m.cell 0 rfl
 have c0:=d.cell 1 rfl
 have HM:=Zb ((f.out.r.below b (Nat.le_refl _)).block (w':=W1.drew) rfl)
 have x1:=m.cell 6 rfl
 have x2:=m.cell 7 rfl
 have x3:=m.cell 8 rfl
 have x4:=m.cell 9 rfl
 have x5:=m.cell 10 rfl
 obtain ⟨w2,N2,K,y,k,l,E,u⟩:=Jb7 Tryz.underlying69' HM.out f.out.mr.nd c.rel.id (.agg #[.int .i64 c.rel.id,.int .i64 c.rel.fr,.int .i64 c.rel.tt,.string c.rel.type,.slice T c.rel.props.length U]) HI.out.2.2
 have M:=Zb l
 have I:=Zb y
 have S:=Zb k
 have D:=Zb E
 have q:Hid (Below B w w2):=(o.out.mono O).trans ((show Below B W1 W1.drew from ⟨rfl,rfl,rfl,Nat.le_refl _,fun _ _=>rfl⟩).trans (u.mono V))
 clear j m d b y k l E u HM
 go_upto_region 5 with fail
 go_region_with fail
 all_goals
  clear x0 x1 x2 x3 x4 x5 c0 K
  go_wp2_with fail
  refine bodyPost_end (v:=.tuple #[]) (by simp [results,Tryz.results59,go_sem]) rfl ⟨rfl,q.out,N,N2,?_⟩
  rw [Jif HK.out]
  exact ⟨f.out.ok,HX.out.keep ((D.out _ P).trans rfl),(f.out.n.below o.out (Nat.le_refl _)).block ((D.out _ H).trans rfl),I.out,f.out.mn.turn fun v x h=>h.below q.out,(f.out.mr.put c.rel _ a0.out S.out M.out).turn fun v x h=>h.below q.out⟩
theorem Zzj (c:Zs) (F:c.kind=2) (g:Zt) (p:GP) (B:Nat) (v:Value) (w:World) (N R:List (Int × Value)) (h:Zaz B p g N R w) (O:B<=w.heap.size) (L:Zbs B w v c) (C:I64 c.id/\I64 c.node.id/\I64 c.rel.id) :
  Calls Tryz.prog 59 #[.pointer (some ⟨p.g,0,none⟩),v] w fun e w'=>e=.returned (.tuple #[])/\Below B w w'/\∃ N' R',Zaz B p (doC g c) N' R' w':=by
 obtain ⟨la,lc,pa,W,T,U,rfl,t,s,G⟩:=L
 have f:=Zb h
 have a1:=Zb t
 have a0:=Zb s
 have HI:=Zb C
 have HK:=Zb F
 rw [F]
 obtain ⟨Q,P,H,Y,X,V⟩:=h.ok
 clear h t s G C F
 go_enter Tryz.func59,Tryz.ntmps59
 go_upto_region 1 with fail
 generalize j:World.alloc _ _=W1
 have m:=Zl w #[.int .i64 2,.int .i64 c.id,.int .i64 c.other,.int .i64 c.node.id,.slice la c.node.labels.length lc,.slice pa c.node.props.length W,.int .i64 c.rel.id,.int .i64 c.rel.fr,.int .i64 c.rel.tt,.string c.rel.type,.slice T c.rel.props.length U] 51
 rw [j] at m
 have b:Below w.heap.size w W1:=by rw [<- j];exact (Below.refl _ _).alloc (Nat.le_refl _) _
 have o:=Zb b
 have d:=f.out.box.below b f.out.box.lt
 have HX:=Zb d
 have x0:=m.cell 0 rfl
 have c0:=d.cell 0 rfl
 have HM:=Zb ((f.out.n.below b (Nat.le_refl _)).block (w':=W1.drew) rfl)
 have x1:=m.cell 1 rfl
 obtain ⟨w2,N2,K,y,k,l,E,u⟩:=Jb8 (ty:=0) Tryz.underlying68' HM.out f.out.mn.nd c.id HI.out.1
 have M:=Zb l
 have I:=Zb y
 have S:=Zb k
 have D:=Zb E
 have q:Hid (Below B w w2):=(o.out.mono O).trans ((show Below B W1 W1.drew from ⟨rfl,rfl,rfl,Nat.le_refl _,fun _ _=>rfl⟩).trans (u.mono X))
 clear j m d b y k l E u HM
 go_upto_region 7 with fail
 go_region_with fail
 all_goals
  clear x0 x1 c0 K
  go_wp2_with fail
  refine bodyPost_end (v:=.tuple #[]) (by simp [results,Tryz.results59,go_sem]) rfl ⟨rfl,q.out,N2,R,?_⟩
  rw [Jig HK.out]
  exact ⟨f.out.ok,HX.out.keep ((D.out _ Q).trans rfl),I.out,(f.out.r.below o.out (Nat.le_refl _)).block ((D.out _ (Ne.symm H)).trans rfl),(f.out.mn.out c.id S.out M.out).turn fun v x h=>h.below q.out,f.out.mr.turn fun v x h=>h.below q.out⟩
theorem Zzk (c:Zs) (F:c.kind=3) (g:Zt) (p:GP) (B:Nat) (v:Value) (w:World) (N R:List (Int × Value)) (h:Zaz B p g N R w) (O:B<=w.heap.size) (L:Zbs B w v c) (C:I64 c.id/\I64 c.node.id/\I64 c.rel.id) :
  Calls Tryz.prog 59 #[.pointer (some ⟨p.g,0,none⟩),v] w fun e w'=>e=.returned (.tuple #[])/\Below B w w'/\∃ N' R',Zaz B p (doC g c) N' R' w':=by
 obtain ⟨la,lc,pa,W,T,U,rfl,t,s,G⟩:=L
 have f:=Zb h
 have a1:=Zb t
 have a0:=Zb s
 have HI:=Zb C
 have HK:=Zb F
 rw [F]
 obtain ⟨Q,P,H,Y,X,V⟩:=h.ok
 clear h t s G C F
 go_enter Tryz.func59,Tryz.ntmps59
 go_upto_region 1 with fail
 generalize j:World.alloc _ _=W1
 have m:=Zl w #[.int .i64 3,.int .i64 c.id,.int .i64 c.other,.int .i64 c.node.id,.slice la c.node.labels.length lc,.slice pa c.node.props.length W,.int .i64 c.rel.id,.int .i64 c.rel.fr,.int .i64 c.rel.tt,.string c.rel.type,.slice T c.rel.props.length U] 51
 rw [j] at m
 have b:Below w.heap.size w W1:=by rw [<- j];exact (Below.refl _ _).alloc (Nat.le_refl _) _
 have o:=Zb b
 have d:=f.out.box.below b f.out.box.lt
 have HX:=Zb d
 have x0:=m.cell 0 rfl
 have c0:=d.cell 1 rfl
 have HM:=Zb ((f.out.r.below b (Nat.le_refl _)).block (w':=W1.drew) rfl)
 have x1:=m.cell 1 rfl
 obtain ⟨w2,N2,K,y,k,l,E,u⟩:=Jb8 (ty:=0) Tryz.underlying69' HM.out f.out.mr.nd c.id HI.out.1
 have M:=Zb l
 have I:=Zb y
 have S:=Zb k
 have D:=Zb E
 have q:Hid (Below B w w2):=(o.out.mono O).trans ((show Below B W1 W1.drew from ⟨rfl,rfl,rfl,Nat.le_refl _,fun _ _=>rfl⟩).trans (u.mono V))
 clear j m d b y k l E u HM
 go_upto_region 9 with fail
 go_region_with fail
 all_goals
  clear x0 x1 c0 K
  go_wp2_with fail
  refine bodyPost_end (v:=.tuple #[]) (by simp [results,Tryz.results59,go_sem]) rfl ⟨rfl,q.out,N,N2,?_⟩
  rw [Jih HK.out]
  exact ⟨f.out.ok,HX.out.keep ((D.out _ P).trans rfl),(f.out.n.below o.out (Nat.le_refl _)).block ((D.out _ H).trans rfl),I.out,f.out.mn.turn fun v x h=>h.below q.out,(f.out.mr.out c.id S.out M.out).turn fun v x h=>h.below q.out⟩
theorem Zzl (c:Zs) (F:c.kind=4) (g:Zt) (p:GP) (B:Nat) (v:Value) (w:World) (N R:List (Int × Value)) (h:Zaz B p g N R w) (O:B<=w.heap.size) (L:Zbs B w v c) (C:I64 c.id/\I64 c.node.id/\I64 c.rel.id) :
  Calls Tryz.prog 59 #[.pointer (some ⟨p.g,0,none⟩),v] w fun e w'=>e=.returned (.tuple #[])/\Below B w w'/\∃ N' R',Zaz B p (doC g c) N' R' w':=by
 obtain ⟨la,lc,pa,W,T,U,rfl,t,s,G⟩:=L
 have f:=Zb h
 have a1:=Zb t
 have a0:=Zb s
 have HI:=Zb C
 have HK:=Zb F
 rw [F]
 obtain ⟨Q,P,H,Y,X,V⟩:=h.ok
 clear h t s G C F
 go_enter Tryz.func59,Tryz.ntmps59
 go_upto_region 1 with fail
 generalize j:World.alloc _ _=W1
 have m:=Zl w #[.int .i64 4,.int .i64 c.id,.int .i64 c.other,.int .i64 c.node.id,.slice la c.node.labels.length lc,.slice pa c.node.props.length W,.int .i64 c.rel.id,.int .i64 c.rel.fr,.int .i64 c.rel.tt,.string c.rel.type,.slice T c.rel.props.length U] 51
 rw [j] at m
 have b:Below w.heap.size w W1:=by rw [<- j];exact (Below.refl _ _).alloc (Nat.le_refl _) _
 have o:=Zb b
 have d:=f.out.box.below b f.out.box.lt
 have HX:=Zb d
 have x0:=m.cell 0 rfl
 have x1:=m.cell 1 rfl
 have x2:=m.cell 2 rfl
 have c2:=d.cell 2 rfl
 have c3:=d.cell 3 rfl
 have f2:=d.z 2
 have f3:=d.z 3
 have a6:w.heap.size≠p.g:=by have:=f.out.box.lt;omega
 clear j m d b
 go_upto_region 11 with fail
 go_region_with fail
 all_goals
  clear x0 x1 x2 c2 c3 f2 f3
  generalize a2:World.setCell _ _ _=Wn
  have a3:Hid (Below B w Wn):=by rw [<- a2];exact ((o.out.mono O).setCell (p:=⟨p.g,_,none⟩) Y _).setCell (p:=⟨p.g,_,none⟩) Y _
  have a5:Hid (Rec Wn p.g #[.map (some p.n),.map (some p.r),.int .i64 c.id,.int .i64 c.other] 71):=by
   rw [<- a2]
   first | exact (HX.out.set 2 _).set 3 _ | exact (HX.out.set 3 _).set 2 _
  have a4:Hid (∀ i,i≠p.g->Wn.heap[i]?=W1.heap[i]?):=fun i C=>by rw [<- a2,Below.heap_setCell _ _ _ _ C,Below.heap_setCell _ _ _ _ C]
  clear a2
  go_wp2_with fail
  refine bodyPost_end (v:=.tuple #[]) (by simp [results,Tryz.results59,go_sem]) rfl ⟨rfl,a3.out.drew,N,R,?_⟩
  rw [Jii HK.out]
  exact ⟨f.out.ok,a5.out,(f.out.n.below o.out (Nat.le_refl _)).block (a4.out _ (Ne.symm Q)),(f.out.r.below o.out (Nat.le_refl _)).block (a4.out _ (Ne.symm P)),f.out.mn.turn fun v x h=>h.below a3.out.drew,f.out.mr.turn fun v x h=>h.below a3.out.drew⟩
theorem Zs1 (c:Zs) (F:0<=c.kind/\c.kind<=4) (g:Zt) (p:GP) (B:Nat) (v:Value) (w:World) (N R:List (Int × Value)) (h:Zaz B p g N R w) (O:B<=w.heap.size) (L:Zbs B w v c) (C:I64 c.id/\I64 c.node.id/\I64 c.rel.id) :
  Calls Tryz.prog 59 #[.pointer (some ⟨p.g,0,none⟩),v] w fun e w'=>e=.returned (.tuple #[])/\Below B w w'/\∃ N' R',Zaz B p (doC g c) N' R' w':=by
 have:c.kind=0\/c.kind=1\/c.kind=2\/c.kind=3\/c.kind=4:=by omega
 rcases this with e | e | e | e | e
 ·exact Zzh c e g p B v w N R h O L C
 ·exact Zzi c e g p B v w N R h O L C
 ·exact Zzj c e g p B v w N R h O L C
 ·exact Zzk c e g p B v w N R h O L C
 ·exact Zzl c e g p B v w N R h O L C
end
section
open Go.RowKit Go.Shelf
attribute [local go_sem] Oper.semAt_some
def Zbv (c:Zs):Bool:=decide (c.kind<0)||decide (4<c.kind)
def Zap (B:Nat) (w:World) (a:Option Addr) (cs:List Zs):Prop:=∀ i c,cs[i]?=some c->∃ d off la lc x u s t,a=some ⟨d,off,none⟩/\d<B/\(w.cell? ⟨d,off+i*11,none⟩=some (.int .i64 c.kind)/\w.cell? ⟨d,off+i*11+1,none⟩=some (.int .i64 c.id)/\w.cell? ⟨d,off+i*11+2,none⟩=some (.int .i64 c.other)/\w.cell? ⟨d,off+i*11+3,none⟩=some (.int .i64 c.node.id)/\w.cell? ⟨d,off+i*11+4,none⟩=some (.slice la c.node.labels.length lc)/\w.cell? ⟨d,off+i*11+5,none⟩=some (.slice x c.node.props.length u)/\w.cell? ⟨d,off+i*11+6,none⟩=some (.int .i64 c.rel.id)/\w.cell? ⟨d,off+i*11+7,none⟩=some (.int .i64 c.rel.fr)/\w.cell? ⟨d,off+i*11+8,none⟩=some (.int .i64 c.rel.tt)/\w.cell? ⟨d,off+i*11+9,none⟩=some (.string c.rel.type)/\w.cell? ⟨d,off+i*11+10,none⟩=some (.slice s c.rel.props.length t))/\Ja B w (.agg #[.int .i64 c.node.id,.slice la c.node.labels.length lc,.slice x c.node.props.length u]) c.node/\Ji B w (.agg #[.int .i64 c.rel.id,.int .i64 c.rel.fr,.int .i64 c.rel.tt,.string c.rel.type,.slice s c.rel.props.length t]) c.rel/\c.rel.type.size<=maxLen
theorem Zap.below {B:Nat} {w w':World} {a:Option Addr} {cs:List Zs} (h:Zap B w a cs) (g:Below B w w'):Zap B w' a cs:=fun i c A=>by
 obtain ⟨d,off,la,lc,x,u,s,t,e,Q,⟨c0,c1,c2,c3,c4,c5,c6,c7,c8,c9,c10⟩,h1,h2,h3⟩:=h i c A
 have k:∀ o,w'.cell? ⟨d,o,none⟩=w.cell? ⟨d,o,none⟩:=fun o=>g.cell (p:=⟨d,o,none⟩) Q
 exact ⟨d,off,la,lc,x,u,s,t,e,Q,⟨(k _).trans c0,(k _).trans c1,(k _).trans c2,(k _).trans c3,(k _).trans c4,(k _).trans c5,(k _).trans c6,(k _).trans c7,(k _).trans c8,(k _).trans c9,(k _).trans c10⟩,h1.below g,h2.below g,h3⟩
theorem Zmu (c:Zs) (la x s:Option Addr) (ll lc U u ql t:Nat) (w:World):Calls Tryz.prog 58 #[.agg #[.int .i64 c.kind,.int .i64 c.id,.int .i64 c.other,.int .i64 c.node.id,.slice la ll lc,.slice x U u,.int .i64 c.rel.id,.int .i64 c.rel.fr,.int .i64 c.rel.tt,.string c.rel.type,.slice s ql t]] w fun e w'=>e=.returned (.bool (Zbv c))/\Below w.heap.size w w':=by
 obtain ⟨b,g⟩:∃ b,Zbv c=b:=⟨_,rfl⟩
 rw [g]
 unfold Zbv at g
 obtain ⟨R,M⟩:∃ k,c.kind=k:=⟨_,rfl⟩
 rw [M] at g |-
 have E:=Zb g
 clear g M
 go_enter Tryz.func58,Tryz.ntmps58
 go_upto_region 1 with fail
 generalize D:World.alloc _ _=W1
 have O:=Zl w #[.int .i64 R,.int .i64 c.id,.int .i64 c.other,.int .i64 c.node.id,.slice la ll lc,.slice x U u,.int .i64 c.rel.id,.int .i64 c.rel.fr,.int .i64 c.rel.tt,.string c.rel.type,.slice s ql t] 51
 rw [D] at O
 have C:Hid (Below w.heap.size w W1):=by rw [<- D];exact (Below.refl _ _).alloc (Nat.le_refl _) _
 have x0:=O.cell 0 rfl
 clear D O
 by_cases h1:R<0
 ·go_wp2_with fail
  go_ret
  exact ⟨by rw [<- E.out];simp [h1],C.out⟩
 ·by_cases h2:4<R
  ·go_wp2_with fail
   go_ret
   exact ⟨by rw [<- E.out];simp [h1,h2],C.out⟩
  ·go_wp2_with fail
   go_ret
   exact ⟨by rw [<- E.out];simp [h1,h2],C.out⟩
def ixC  : List Zs->Nat->Int
 | [],_=>-1
 | c::r,j=>if Zbv c=true then j else ixC r (j+1)
theorem Jbt {cs:List Zs} {j:Nat} {c:Zs} (h:cs[j]?=some c):ixC (cs.drop j) j=if Zbv c=true then (j:Int) else ixC (cs.drop (j+1)) (j+1):=by
 obtain ⟨hj,I⟩:=List.getElem?_eq_some_iff.1 h
 rw [List.drop_eq_getElem_cons hj,I,ixC]
theorem Zuc  : ∀ (cs:List Zs) (j:Nat),decide (ixC cs j>=0)=cs.any Zbv
 | [],j=>by simp [ixC]
 | c::r,j=>by
  rw [ixC,List.any_cons]
  by_cases h:Zbv c=true
  ·rw [if_pos h,h];simp
  ·rw [if_neg h,Zuc r (j+1)];simp [h]
theorem Zso (cs:List Zs) (a:Option Addr) (cap B:Nat) (w:World) (S:B<=w.heap.size) (y:cs.length<=cap) (l:cap<=9223372036854775807) (A:Zap B w a cs) :
  Calls Tryz.prog 113 #[.slice a cs.length cap,.func (.func 58) #[] #[]] w fun e w'=>e=.returned (.int .i64 (ixC cs 0))/\Below w.heap.size w w':=by
 obtain ⟨res,m⟩:∃ r,ixC cs 0=r:=⟨_,rfl⟩
 rw [m]
 have HC:=Zb A
 have W:=Zb m
 clear A m
 go_enter Tryz.func113,Tryz.ntmps113
 go_wp2_with fail
 go_loopw [8] (fun i wr=>∃ j:Nat,j<=cs.length/\i=.int .i64 j/\Below w.heap.size w wr/\ixC (cs.drop j) j=res) (fun i _=>cs.length - (intOf i).toNat)
 case atStart=>exact ⟨0,Nat.zero_le _,rfl,Below.refl _ _,W.out⟩
 case round =>
  obtain ⟨j,hj,rfl,H,K⟩:=hrel
  have v:=Zb H
  have F:=Zb K
  clear H K W
  by_cases hlt:j<cs.length
  ·obtain ⟨c,I⟩:∃ q,cs[j]?=some q:=⟨_,List.getElem?_eq_getElem hlt⟩
   have X:=Zb I
   obtain ⟨d,off,la,lc,x,u,s,t,rfl,Q,⟨c0,c1,c2,c3,c4,c5,c6,c7,c8,c9,c10⟩,h1,h2,h3⟩:=(HC.out.below (v.out.mono S)) j c I
   have L:=Zb (Zmu c la x s c.node.labels.length lc c.node.props.length u c.rel.props.length t wr)
   clear I h1 h2 h3
   obtain ⟨nb,G⟩:∃ b,Zbv c=b:=⟨_,rfl⟩
   rw [G] at L
   have Y:=Zb G
   clear G
   cases nb with
   | true =>
    go_wp2_with fail
    refine L.out.mono ?_
    rintro e V ⟨rfl,f⟩
    have n:=Zb (Za v.out f)
    have N:Hid (res=(j:Int)):=by
     have:=F.out
     rw [Jbt X.out,Y.out,if_pos rfl] at this
     exact this.symm
    clear f c0 c1 c2 c3 c4 c5 c6 c7 c8 c9 c10 L
    go_wp2_with fail
    go_ret
    exact ⟨by rw [N.out];rfl,n.out⟩
   | false =>
    go_wp2_with fail
    refine L.out.mono ?_
    rintro e V ⟨rfl,f⟩
    have n:=Zb (Za v.out f)
    have N:Hid (ixC (cs.drop (j+1)) (j+1)=res):=by
     have:=F.out
     rw [Jbt X.out,Y.out,if_neg (by simp)] at this
     exact this
    clear f c0 c1 c2 c3 c4 c5 c6 c7 c8 c9 c10 L
    go_wp2_with fail
    go_roundw
    case rel=>exact ⟨j+1,by omega,by go_num,n.out,N.out⟩
    case measure=>simp [intOf];omega
  ·have N:Hid (res=-1):=by
    have:=F.out
    rw [List.drop_of_length_le (by omega),ixC] at this
    exact this.symm
   go_wp2_with fail
   go_ret
   exact ⟨by rw [N.out];rfl,v.out⟩
theorem Zmv (cs:List Zs) (a:Option Addr) (cap B:Nat) (w:World) (S:B<=w.heap.size) (y:cs.length<=cap) (l:cap<=9223372036854775807) (A:Zap B w a cs) :
  Calls Tryz.prog 57 #[.slice a cs.length cap,.func (.func 58) #[] #[]] w fun e w'=>e=.returned (.bool (cs.any Zbv))/\Below w.heap.size w w':=by
 have T:=Zb (Zso cs a cap B w S y l A)
 have P:=Zb (Zuc cs 0)
 obtain ⟨z,hz⟩:∃ z,ixC cs 0=z:=⟨_,rfl⟩
 obtain ⟨b,g⟩:∃ b,cs.any Zbv=b:=⟨_,rfl⟩
 rw [hz] at T P
 rw [g] at P |-
 clear hz g A
 go_enter Tryz.func57,Tryz.ntmps57
 go_wp2_with fail
 refine T.out.mono ?_
 rintro e V ⟨rfl,f⟩
 have n:=Zb f
 clear f T
 go_wp2_with fail
 go_ret
 exact ⟨by rw [<- P.out];rfl,n.out⟩
end
section
open Go.ChangeShapes Go.WideShapes Go.ChangeAt Go.RowKit Go.Shelf Go.Deep
theorem Zpe  : Tryz.prog.cellsOf 60=6:=by kernel_rfl
theorem Jcp  : Tryz.prog.cellsOf 58=1:=by kernel_rfl
theorem Zvk  : Tryz.prog.cellsOf 44=1:=by kernel_rfl
theorem Jcq  : Tryz.prog.cellsOf 57=1:=by kernel_rfl
theorem Zqu  : Tryz.prog.cellsOf 9=1:=by kernel_rfl
theorem Jew  : Tryz.prog.cellsOf 4=1:=by kernel_rfl
theorem Zir  : Tryz.prog.cellsOf 2=1:=by kernel_rfl
section
variable {H:Type} {enc:TypeId × Value->H} {W:World}
theorem Zvl {B b:Nat} {w:World}:∀ (l:List Zi) (off:Nat),(∀ (i:Nat) (t:Zi),l[i]?=some t->∃ v0 v1 v2 v3 v4 v5,(w.cell? ⟨b,off+i*6,none⟩=some v0/\w.cell? ⟨b,off+i*6+1,none⟩=some v1/\w.cell? ⟨b,off+i*6+2,none⟩=some v2/\w.cell? ⟨b,off+i*6+3,none⟩=some v3 /\
   w.cell? ⟨b,off+i*6+4,none⟩=some v4/\w.cell? ⟨b,off+i*6+5,none⟩=some v5)/\Zaw B w (.agg #[v0,v1,v2,v3,v4,v5]) t)->KidsLie B w b off l
 | [],off,h=>by simp only [KidsLie]
 | t::l,off,h=>by
  rw [KidsLie]
  refine ⟨?_,Zvl l (off+6) fun i u c=>?_⟩
  ·have:=h 0 t rfl
   simpa using this
  ·have:=h (i+1) u (by simpa using c)
   have e:off+(i+1)*6=off+6+i*6:=by omega
   rwa [e] at this
theorem Zvm  : ∀ (l:List Zi),(∀ t ∈ l,Zln t)->SaneL l
 | [],_=>by simp only [SaneL]
 | t::l,h=>by
  rw [SaneL]
  exact ⟨h t (by simp),Zvm l fun u c=>h u (by simp [c])⟩
end
end
section
open Go.Shelf
def Tryz.lays125_ren  : Go.Shelf.Ren:=⟨fun | 125=>167 | 128=>202 | 129=>203 | n=>n,fun | 46=>200 | 3=>3 | 51=>234 | 53=>236 | 4=>4 | 5=>5 | 9=>9 | n=>n,fun | n=>n⟩
theorem Tryz.lays125  : Go.Proofs.Lays.n125 Tryz.prog Tryz.lays125_ren:={
 mixed:=by kernel_rfl
 f125:=Tryz.func167.trans (congrArg some (by kernel_rfl))
 f128:=Tryz.func202.trans (congrArg some (by kernel_rfl))
 f129:=Tryz.func203.trans (congrArg some (by kernel_rfl))
 t3:=Tryz.underlying3
 a3:=Tryz.isAgg3
 z3:=Tryz.sizeOf3
 v3:=Tryz.zeroValue3
 t4:=Tryz.underlying4
 a4:=Tryz.isAgg4
 z4:=Tryz.sizeOf4
 v4:=Tryz.zeroValue4
 t5:=Tryz.underlying5
 a5:=Tryz.isAgg5
 z5:=Tryz.sizeOf5
 v5:=Tryz.zeroValue5
 t9:=Tryz.underlying9
 a9:=Tryz.isAgg9
 z9:=Tryz.sizeOf9
 v9:=Tryz.zeroValue9
 t46:=Tryz.underlying200
 a46:=Tryz.isAgg200
 z46:=Tryz.sizeOf200
 v46:=Tryz.zeroValue200
 t51:=Tryz.underlying234
 a51:=Tryz.isAgg234
 z51:=Tryz.sizeOf234
 v51:=Tryz.zeroValue234
 t53:=Tryz.underlying236
 a53:=Tryz.isAgg236
 z53:=Tryz.sizeOf236
 v53:=Tryz.zeroValue236 }
theorem Tryz.bits_Len (x:Int) (w:World) (h0:0<=x) (h1:x<=18446744073709551615) :
  Calls Tryz.prog 167 #[.int .u64 x] w fun e w'=>e=.returned (.int .i64 (Lib.bitLen x.toNat))/\w'=w:=Any.bits_Len Tryz.lays125 x w h0 h1
end
