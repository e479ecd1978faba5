/- A graph is made, of any that may be. A graph is told, in memory of its own; a graph that was made tells what it was made of. -/
import Derived.Test.YteddjlbfbpecjaaGreatDoorJoin28
import Derived.Test.YteddjlbfbpecjaaGreatDoorJoin30
import Derived.Test.YteddjlbfbpecjaaGreatDoorGtl2
namespace Go.Proofs.YteddjlbfbpecjaaGreatDoor
open Go.RowKit Go.Shelf
set_option linter.unusedVariables false
set_option linter.unusedSimpArgs false
attribute [local go_sem] Oper.semAt_some
def attF (rs:List RelP):List (Int × List Int):=rs.foldl (fun L r=>addTo r.fr r.id L) []
def attT (rs:List RelP):List (Int × List Int):=rs.foldl (fun L r=>addTo r.tt r.id L) []
theorem attF_step {rs:List RelP} {j:Nat} {r:RelP} (h:rs[j]?=some r):attF (rs.take (j+1))=addTo r.fr r.id (attF (rs.take j)):=by
 unfold attF;rw [List.take_add_one,h];simp [List.foldl_append]
theorem attT_step {rs:List RelP} {j:Nat} {r:RelP} (h:rs[j]?=some r):attT (rs.take (j+1))=addTo r.tt r.id (attT (rs.take j)):=by
 unfold attT;rw [List.take_add_one,h];simp [List.foldl_append]
theorem att_keys (key:RelP→Int):∀ (rs:List RelP) (L:List (Int × List Int)),(L.map Prod.fst).Nodup→((rs.foldl (fun L r=>addTo (key r) r.id L) L).map Prod.fst).Nodup
 | [],L,h=>h
 | r::rs,L,h=>att_keys key rs _ (addTo_keys h)
theorem att_len (key:RelP→Int):∀ (rs:List RelP) (L:List (Int × List Int)) (n:Nat),(∀ q ∈ L,q.2.length≤n)→∀ q ∈ rs.foldl (fun L r=>addTo (key r) r.id L) L,q.2.length≤n+rs.length
 | [],L,n,h,q,hq=>h q hq
 | r::rs,L,n,h,q,hq=>by
  have:=att_len key rs _ (n+1) (addTo_len h) q hq
  simp only [List.length_cons]
  omega
theorem attF_len (rs:List RelP):∀ q ∈ attF rs,q.2.length≤rs.length:=fun q hq=>by
 have:=att_len RelP.fr rs [] 0 (fun q h=>by simp at h) q hq
 omega
theorem attT_len (rs:List RelP):∀ q ∈ attT rs,q.2.length≤rs.length:=fun q hq=>by
 have:=att_len RelP.tt rs [] 0 (fun q h=>by simp at h) q hq
 omega
structure Holds (b0:Nat) (g:GraphP) (p:GP) (B lo:Nat) (N R F T:List (Int × Value)) (w:World):Prop where
 low:b0≤B
 ok:p.Ok B
 lob:B≤lo∧lo≤w.heap.size∧p.g<lo∧p.n<lo∧p.r<lo∧p.f<lo∧p.t<lo
 gs:GS w p g.nn g.nr N R F T
 nodes:NodesE B w N g.nodes
 rels:RelsE B w R g.rels
 fr:Lists lo w F (attF g.rels)
 tt:Lists lo w T (attT g.rels)
 ap:Apart (F.map Prod.snd++T.map Prod.snd)
theorem Holds.below {b0:Nat} {g:GraphP} {p:GP} {B lo:Nat} {N R F T:List (Int × Value)} {w w':World} (h:Holds b0 g p B lo N R F T w) (hb:Below w.heap.size w w'):Holds b0 g p B lo N R F T w':=by
 have hs:=hb.size
 have hlo:=h.lob
 exact ⟨h.low,h.ok,⟨hlo.1,by omega,hlo.2.2⟩,h.gs.below hb,h.nodes.below (hb.mono (by omega)),h.rels.below (hb.mono (by omega)),h.fr.below hb,h.tt.below hb,h.ap⟩
def Made (b0:Nat) (g:GraphP) (p:GP) (w:World):Prop:=∃ B lo N R F T,Holds b0 g p B lo N R F T w
inductive MakeTo (g:GraphP) (w:World):Ending→World→Prop
 | no {w'} (hc:checkPB g=false) (hb:Below w.heap.size w w'):MakeTo g w (.returned (.tuple #[.pointer none,.int .i64 2])) w'
 | yes {w'} (hc:checkPB g=true) (p:GP) (hm:Made w.heap.size g p w') (hb:Below w.heap.size w w'):MakeTo g w (.returned (.tuple #[p.val,.int .i64 0])) w'
structure MkJ (w:World) (cs:Array Value) (nn nr:Int) (ns:List NodeP) (rs done:List RelP) (p:GP) (B lo:Nat) (wr:World):Prop where
 box:Rec wr w.heap.size cs 25
 sz:w.heap.size<B
 keep:Below w.heap.size w wr
 hold:∃ N R F T,(w.heap.size≤B∧p.Ok B∧(B≤lo∧lo≤wr.heap.size∧p.g<lo∧p.n<lo∧p.r<lo∧p.f<lo∧p.t<lo))∧GS wr p nn nr N R F T∧NodesE B wr N ns∧RelsE B wr R rs∧Lists lo wr F (attF done)∧Lists lo wr T (attT done)∧Apart (F.map Prod.snd++T.map Prod.snd)
theorem MkJ.below {w:World} {cs:Array Value} {nn nr:Int} {ns:List NodeP} {rs done:List RelP} {p:GP} {B lo:Nat} {wr wz:World} (h:MkJ w cs nn nr ns rs done p B lo wr) (hb:Below wr.heap.size wr wz):MkJ w cs nn nr ns rs done p B lo wz:=by
 obtain ⟨N,R,F,T,⟨h1,h2,h3⟩,h4,h5,h6,h7,h8,h9⟩:=h.hold
 have hs:=hb.size
 exact ⟨h.box.below hb h.box.lt,h.sz,below_on h.keep hb,N,R,F,T,⟨h1,h2,h3.1,by omega,h3.2.2⟩,h4.below hb,h5.below (hb.mono (by omega)),h6.below (hb.mono (by omega)),h7.below hb,h8.below hb,h9⟩
theorem MkJ.out {w:World} {cs:Array Value} {nn nr:Int} {ns:List NodeP} {rs:List RelP} {p:GP} {B lo:Nat} {wr:World} (h:MkJ w cs nn nr ns rs rs p B lo wr):Made w.heap.size ⟨ns,rs,nn,nr⟩ p wr:=by
 obtain ⟨N,R,F,T,⟨h1,h2,h3⟩,h4,h5,h6,h7,h8,h9⟩:=h.hold
 exact ⟨B,lo,N,R,F,T,h1,h2,h3,h4,h5,h6,h7,h8,h9⟩
set_option maxRecDepth 100000 in
set_option maxHeartbeats 8000000 in
theorem make_any (g:GraphP) (B:Nat) (v:Value) (w:World) (hB:B≤w.heap.size) (hE:Env w) (hg:GraphLies B w v g) (hz:Mild g) (hn1:-9223372036854775808≤g.nn∧g.nn≤9223372036854775807) (hn2:-9223372036854775808≤g.nr∧g.nr≤9223372036854775807) (hi2:∀ r ∈ g.rels,I64 r.fr∧I64 r.tt)
  (ht:∀ x ∈ g.nodes,x.labels.length≤2000000∧x.props.length≤2000000∧∀ q ∈ x.props,q.2.total≤2000000) (hu:∀ x ∈ g.rels,x.props.length≤2000000∧∀ q ∈ x.props,q.2.total≤2000000) :
  Calls Tryz.prog 13 #[v] w (MakeTo g w):=by
 have hm3:∀ W:World,(Instr.makeMap 72 none).run Tryz.prog W=.ok (.map (some W.heap.size)) (W.alloc (.map #[] 0)):=fun W=>rfl
 obtain ⟨ok,hok⟩:∃ b,checkPB g=b:=⟨_,rfl⟩
 have HOK:=hidE hok
 have HC:=hidE (fun W (hb:Below w.heap.size w W)=>checkP_any g B v W (Nat.le_trans hB hb.size) (hE.below hb hE.room) (hg.below (hb.mono hB)) hz hn1 hn2 hi2)
 rw [hok] at HC
 have HY:=hidE (fun W (hb:Below w.heap.size w W)=>copyG_any g v B W (Nat.le_trans hB hb.size) (hg.below (hb.mono hB)) hz.nodes hz.rels ht hu)
 have HTY:=hidE hg.types
 have hid:ok=true→((g.nodes.map NodeP.id).Nodup∧(∀ n ∈ g.nodes,I64 n.id))∧(g.rels.map RelP.id).Nodup∧∀ r ∈ g.rels,I64 r.id:=fun e=>by
  rw [← hok] at e
  unfold checkPB at e
  simp only [Bool.and_eq_true] at e
  have h1:=riseI_all e.2.1.1
  have h2:=riseI_all e.2.1.2
  refine ⟨⟨h1.2,fun n hn=>?_⟩,h2.2,fun r hr=>?_⟩
  ·have:=h1.1 _ (List.mem_map.2 ⟨n,hn,rfl⟩);exact i64_of (by omega) (by omega)
  ·have:=h2.1 _ (List.mem_map.2 ⟨r,hr,rfl⟩);exact i64_of (by omega) (by omega)
 have HID:=hidE hid
 have HI2:=hidE hi2
 have hml:=hz.rels
 obtain ⟨na,nc,ra,rc,rfl,hn,hr⟩:=hg
 obtain ⟨ns,rs,nn,nr⟩:=g
 simp only at hr HC HY HTY HI2 hml
 clear hn hok hE hz hn1 hn2 hi2 ht hu hid
 obtain ⟨a',c',e2,r1,r2,hq3⟩:=hr
 obtain ⟨rfl,rfl⟩:ra=a'∧rc=c':=by injection e2 with e1 _ e2;exact ⟨e1,e2⟩
 have HQ:=hidE hq3
 obtain ⟨n,hn⟩:∃ n,ns.length=n:=⟨_,rfl⟩
 obtain ⟨m,hm⟩:∃ m,rs.length=m:=⟨_,rfl⟩
 have HM:=hidE hm
 rw [hm] at r1 hml
 rw [hn,hm] at HC HY
 simp only [hn,hm]
 clear hq3 hn hm e2
 go_enter Tryz.func13,Tryz.ntmps13
 go_upto_region 1 with fail
 generalize hW1:World.alloc _ _=W1
 have HB1:Hid (Below w.heap.size w W1):=by rw [← hW1];exact (Below.refl _ _).alloc (Nat.le_refl _) _
 have HR1:Hid (Rec W1 w.heap.size #[.slice na n nc,.slice ra m rc,.int .i64 nn,.int .i64 nr] 25):=by rw [← hW1];exact rec_new _ _ _
 clear hW1
 have a0:=HR1.out.cell 0 rfl
 have a1:=HR1.out.cell 1 rfl
 have a2:=HR1.out.cell 2 rfl
 have a3:=HR1.out.cell 3 rfl
 go_wp2_with fail
 refine (HC.out W1 HB1.out).mono ?_
 rintro e w2 ⟨rfl,hb2⟩
 have HB2:=hidE (below_on HB1.out hb2)
 have HR2:=hidE (HR1.out.below hb2 HR1.out.lt)
 clear hb2 a0 a1 a2 a3
 cases ok with
 | false =>
  go_wp2_with fail
  go_ret2
  exact .no HOK.out HB2.out
 | true =>
  obtain ⟨⟨d1,d2⟩,d3,d4⟩:=HID.out rfl
  have HD1:=hidE d1
  have HD2:=hidE d2
  have HD3:=hidE d3
  have HD4:=hidE d4
  clear d1 d2 d3 d4
  have a0:=HR2.out.cell 0 rfl
  have a1:=HR2.out.cell 1 rfl
  have a2:=HR2.out.cell 2 rfl
  have a3:=HR2.out.cell 3 rfl
  go_wp2_with fail
  refine (HY.out w2 HB2.out).mono ?_
  rintro e w3 ⟨v3,rfl,hgf,hb3⟩
  have HB3:=hidE (below_on HB2.out hb3)
  have HR3:=hidE (HR2.out.below hb3 HR2.out.lt)
  have HL3:=hidE (hgf.lie HTY.out)
  clear hb3 a0 a1 a2 a3 hgf
  have hvs:∃ x0 x1,v3=.agg #[x0,x1,.int .i64 nn,.int .i64 nr]:=by
   obtain ⟨a,b,c,d,e,_⟩:=HL3.out
   exact ⟨_,_,e⟩
  obtain ⟨x0,x1,rfl⟩:=hvs
  go_wp2_with fail
  refine (partsOf_any ⟨ns,rs,nn,nr⟩ w3.heap.size _ w3 (Nat.le_refl _) HL3.out HD1.out HD3.out HD2.out HD4.out).mono ?_
  rintro e w4 ⟨rfl,hb4,hpt⟩
  have HB4:=hidE (below_on HB3.out hb4)
  have HR4:=hidE (HR3.out.below hb4 HR3.out.lt)
  have HPT:=hidE hpt
  have hs3:w.heap.size<w3.heap.size:=HR3.out.lt
  have hs4:w3.heap.size+4≤w4.heap.size:=by
   obtain ⟨N,R,_,hr,_⟩:=hpt
   have:=hr.lt
   omega
  clear hb4 hpt HL3
  go_upto_region 5 with fail
  generalize hW5:World.alloc _ _=W5
  have hj:MkJ w #[.slice na n nc,.slice ra m rc,.int .i64 nn,.int .i64 nr] nn nr ns rs [] ⟨w4.heap.size+1+1,w3.heap.size+2,w3.heap.size+2+1,w4.heap.size,w4.heap.size+1⟩ w3.heap.size (w4.heap.size+1+1+1) W5:=by
   obtain ⟨N,R,hm1,hm2,hne,hre⟩:=HPT.out
   have hbw:Below w4.heap.size w4 W5:=by rw [← hW5];exact (((Below.refl _ _).alloc (Nat.le_refl _) _).alloc (by simp) _).alloc (by simp;omega) _
   refine ⟨HR4.out.below hbw HR4.out.lt,hs3,below_on HB4.out hbw,N,R,[],[],⟨Nat.le_of_lt hs3,⟨by simp only;omega,by simp only;omega,by simp only;omega,by simp only;omega,by simp only;omega,by simp only;omega,by simp only;omega,by simp only;omega,by simp only;omega,by simp only;omega,by simp only;omega,by simp only;omega,by simp only;omega,by simp only;omega,by simp only;omega⟩,?_⟩,?_,hne.below (hbw.mono (by omega)),hre.below (hbw.mono (by omega)),lists_none _ _,lists_none _ _,List.Pairwise.nil⟩
   ·refine ⟨by omega,?_,by simp only;omega,by simp only;omega,by simp only;omega,by simp only;omega,by simp only;omega⟩
    rw [← hW5];simp
   ·rw [← hW5]
    refine ⟨?_,?_,?_,?_,?_⟩
    ·have h:=rec_new ((w4.alloc (.map #[] 0)).alloc (.map #[] 0)) #[.map (some (w3.heap.size+2)),.map (some (w3.heap.size+2+1)),.int .i64 nn,.int .i64 nr,.map (some w4.heap.size),.map (some (w4.heap.size+1))] 74
     rw [World.size_alloc,World.size_alloc] at h
     exact h
    ·exact hm1.block (by rw [Below.heap_alloc _ _ _ (by simp;omega),Below.heap_alloc _ _ _ (by simp;omega),Below.heap_alloc _ _ _ (by omega)])
    ·exact hm2.block (by rw [Below.heap_alloc _ _ _ (by simp;omega),Below.heap_alloc _ _ _ (by simp;omega),Below.heap_alloc _ _ _ (by omega)])
    ·exact (mi_none w4).block (by rw [Below.heap_alloc _ _ _ (by simp only [World.size_alloc];omega),Below.heap_alloc _ _ _ (by simp only [World.size_alloc];omega)])
    ·have h:=mi_none (w4.alloc (.map #[] 0))
     rw [World.size_alloc] at h
     exact h.block (by rw [Below.heap_alloc _ _ _ (by simp only [World.size_alloc];omega)])
  have HJ:=hidE hj
  have a1:=hj.box.cell 1 rfl
  clear hW5 hj HPT HR4 HB4 hs4 hm3
  obtain ⟨P,hP⟩:∃ P:GP,(⟨w4.heap.size+1+1,w3.heap.size+2,w3.heap.size+2+1,w4.heap.size,w4.heap.size+1⟩:GP)=P:=⟨_,rfl⟩
  have HPV:Hid (P.g=w4.heap.size+1+1):=by rw [← hP];rfl
  rw [hP] at HJ
  clear hP
  obtain ⟨X,hX⟩:∃ X,w4.heap.size+1+1=X:=⟨_,rfl⟩
  rw [hX] at HPV ⊢
  rw [hX] at HJ
  obtain ⟨lo,hlo⟩:∃ l,X+1=l:=⟨_,rfl⟩
  rw [hlo] at HJ
  clear hX hlo
  have HVL:Hid (P.val=.pointer (some ⟨X,0,none⟩)):=by show _=_;unfold GP.val;rw [HPV.out]
  clear HPV
  obtain ⟨B3,hB3⟩:∃ b,w3.heap.size=b:=⟨_,rfl⟩
  rw [hB3] at HJ
  clear hs3 HR3 HB3 hB3
  go_wp2_with fail
  clear a1
  go_loopw [23] (fun i wr=>∃ j:Nat,j≤m∧i=.int .i64 j∧MkJ w #[.slice na n nc,.slice ra m rc,.int .i64 nn,.int .i64 nr] nn nr ns rs (rs.take j) P B3 lo wr) (fun i _=>m - (intOf i).toNat)
  case atStart=>exact ⟨0,Nat.zero_le _,rfl,HJ.out⟩
  case round =>
   obtain ⟨j,hj,rfl,hjr⟩:=hrel
   have HJR:=hidE hjr
   clear hjr HJ
   by_cases hlt:j<m
   ·have hlt':(j:Int)<m:=by omega
    obtain ⟨x,hx⟩:∃ q,rs[j]?=some q:=⟨_,List.getElem?_eq_getElem (by have:=HM.out;omega)⟩
    obtain ⟨bl,off,rfl,hbl,hc⟩:=HQ.out.resolve_left (by intro e;rw [e] at hx;simp at hx)
    obtain ⟨pv,⟨c0,c1,c2,c3,c4⟩,_,hp⟩:=(hc j _ hx).below (HJR.out.keep.mono hB) hbl
    obtain ⟨pa,pc,rfl,_,_,_⟩:=hp
    have hif:=HI2.out _ (List.mem_of_getElem? hx)
    have HAF:=hidE (attF_step hx)
    have HAT:=hidE (attT_step hx)
    clear hc hx
    obtain ⟨xi,fr,tt,ty,xp⟩:=x
    simp only at c0 c1 c2 c3 c4 hif HAF HAT
    go_upto_region 8 with fail
    generalize hW2:World.alloc _ _=W2
    have hr2:=rec_new wr #[.int .i64 xi,.int .i64 fr,.int .i64 tt,.string ty,.slice pa xp.length pc] 49
    rw [hW2] at hr2
    have HB2:Hid (Below wr.heap.size wr W2):=by rw [← hW2];exact (Below.refl _ _).alloc (Nat.le_refl _) _
    have k0:=hr2.cell 0 rfl
    have k1:=hr2.cell 1 rfl
    have k2:=hr2.cell 2 rfl
    have k3:=hr2.cell 3 rfl
    have k4:=hr2.cell 4 rfl
    have HJ2:=hidE (HJR.out.below HB2.out)
    clear hW2 hr2 c0 c1 c2 c3 c4
    obtain ⟨N,R,F,T,⟨g1,g2,g3⟩,g4,g5,g6,g7,g8,g9⟩:=HJ2.out.hold
    have hl1:∀ q ∈ attF (rs.take j),q.2.length≤3000000:=fun q hq=>by have:=attF_len _ q hq;rw [List.length_take] at this;omega
    have hl2:∀ q ∈ attT (rs.take j),q.2.length≤3000000:=fun q hq=>by have:=attT_len _ q hq;rw [List.length_take] at this;omega
    have hc:=attach_any g4 B3 lo g2 g3 _ _ g7 g8 (att_keys RelP.fr _ [] List.nodup_nil) (att_keys RelP.tt _ [] List.nodup_nil) g9 hl1 hl2 xi fr tt ty pa xp.length pc hif.1 hif.2
    rw [HVL.out] at hc
    have HC2:=hidE hc
    have HG5:=hidE g5
    have HG6:=hidE g6
    clear hc g4 g5 g6 g7 g8 g9 hl1 hl2
    go_wp2_with fail
    refine HC2.out.mono ?_
    rintro e w6 ⟨rfl,F',T',q1,q2,q3,q4,q5,q6,q7⟩
    have HJ6:Hid (MkJ w #[.slice na n nc,.slice (some ⟨bl,off,none⟩) m rc,.int .i64 nn,.int .i64 nr] nn nr ns rs (rs.take (j+1)) P B3 lo w6) :=
     ⟨HJ2.out.box.below q5 HJ2.out.sz,HJ2.out.sz,HJ2.out.keep.trans (q5.mono g1),N,R,F',T',⟨g1,g2,g3.1,by omega,g3.2.2⟩,q1,HG5.out.below q5,HG6.out.below q5,by rw [HAF.out];exact q2,by rw [HAT.out];exact q3,q4⟩
    clear q1 q2 q3 q4 q5 q6 q7 g1 g2 g3 k0 k1 k2 k3 k4
    go_wp2_with fail
    go_roundw
    case rel=>exact ⟨j+1,by omega,by go_num,HJ6.out⟩
    case measure=>simp [intOf];omega
   ·have hlt':¬ (j:Int)<m:=by omega
    have HJA:Hid (MkJ w #[.slice na n nc,.slice ra m rc,.int .i64 nn,.int .i64 nr] nn nr ns rs rs P B3 lo wr):=by
     have:=HJR.out
     rwa [List.take_of_length_le (by have:=HM.out;omega)] at this
    go_wp2_with fail
    go_ret2
    rw [← HVL.out]
    exact .yes HOK.out P HJA.out.out HJA.out.keep
end Go.Proofs.YteddjlbfbpecjaaGreatDoor

namespace Go.Proofs.YteddjlbfbpecjaaGreatDoor
open Go.RowKit Go.Shelf
set_option linter.unusedVariables false
set_option linter.unusedSimpArgs false
attribute [local go_sem] Oper.semAt_some
def TellF (w:World) (g:GraphP) (e:Ending) (w':World):Prop:=∃ v,e=.returned v∧GraphF w.heap.size w'.heap.size w' v g∧Below w.heap.size w w'
theorem GraphF.keep {lo B:Nat} {w w':World} {v:Value} {g:GraphP} (hk:KeepsF lo B w w') (h:GraphF lo B w v g):GraphF lo B w' v g:=by
 obtain ⟨nv,rv,e,h1,h2⟩:=h
 exact ⟨nv,rv,e,h1.keep hk,h2.keep hk⟩
theorem GraphF.mono {lo lo' B B':Nat} {w:World} {v:Value} {g:GraphP} (hl:lo'≤lo) (hB:B≤B') (h:GraphF lo B w v g):GraphF lo' B' w v g:=by
 obtain ⟨nv,rv,e,h1,h2⟩:=h
 exact ⟨nv,rv,e,h1.mono hl hB,h2.mono hl hB⟩
set_option maxRecDepth 100000 in
set_option maxHeartbeats 8000000 in
theorem Tell_any {w:World} {p:GP} {nn nr:Int} {N R F T:List (Int × Value)} (h:GS w p nn nr N R F T) (B:Nat) (hB:B≤w.heap.size) (ns:List NodeP) (rs:List RelP) (ht:TellOf B w N R ns rs)
  (hn:∀ x ∈ ns,x.labels.length≤2000000∧x.props.length≤2000000∧∀ q ∈ x.props,q.2.total≤2000000) (hu:∀ x ∈ rs,x.props.length≤2000000∧∀ q ∈ x.props,q.2.total≤2000000) :
  Calls Tryz.prog 19 #[p.val] w (TellF w ⟨ns,rs,nn,nr⟩):=by
 have HTh:Hid (∀ W,Below w.heap.size w W→Calls Tryz.prog 18 #[.pointer (some ⟨p.g,0,none⟩)] W fun e w'=>e=.returned (.bool true)∧w'=W):=fun W hW=>there_yes (h.below hW)
 have HTl:=hidE (fun W (hW:Below w.heap.size w W)=>tell_any (h.below hW) B (Nat.le_trans hB hW.size) ns rs (ht.below (hW.mono hB)))
 have h1:ns.length≤2000000:=by rw [ht.nlen];exact ht.nl
 have h2:rs.length≤2000000:=by rw [ht.rlen];exact ht.rl
 have HCo:=hidE (fun v W (hW:GraphLies W.heap.size W v ⟨ns,rs,nn,nr⟩)=>copyG_any ⟨ns,rs,nn,nr⟩ v W.heap.size W (Nat.le_refl _) hW h1 h2 hn hu)
 clear h ht hn hu h1 h2
 unfold GP.val
 go_enter Tryz.func19,Tryz.ntmps19
 go_upto_region 1 with fail
 generalize hW1:World.alloc _ _=W1
 have HB1:Hid (Below w.heap.size w W1):=by rw [← hW1];exact (Below.refl _ _).alloc (Nat.le_refl _) _
 have HZ1:Hid (Rec W1 w.heap.size #[.slice none 0 0,.slice none 0 0,.int .i64 0,.int .i64 0] 25):=by rw [← hW1];exact rec_new _ _ _
 clear hW1
 go_wp2_with fail
 refine (HTh.out W1 HB1.out).mono ?_
 rintro e w2 ⟨rfl,hw2⟩
 rw [hw2]
 clear hw2
 go_wp2_with fail
 refine (HTl.out W1 HB1.out).mono ?_
 rintro e w3 ⟨v3,rfl,hg3,hb3⟩
 have HB3:=hidE (below_on HB1.out hb3)
 have HZ3:=hidE (HZ1.out.below hb3 HZ1.out.lt)
 have HC3:=hidE (HCo.out v3 w3 hg3)
 obtain ⟨na,nc,ra,rc,rfl,hq1,hq2⟩:=hg3
 clear hb3 hq1 hq2
 go_wp2_with fail
 refine HC3.out.mono ?_
 rintro e w4 ⟨v4,rfl,hg4,hb4⟩
 have HB4:=hidE (below_on HB3.out hb4)
 have HZ4:=hidE (HZ3.out.below hb4 HZ3.out.lt)
 have HF4:=hidE hg4
 have hs3:w.heap.size<w3.heap.size:=HZ3.out.lt
 obtain ⟨nv,rv,rfl,hq1,hq2⟩:=hg4
 obtain ⟨na4,nc4,rfl,_⟩:=hq1
 obtain ⟨ra4,rc4,rfl,_⟩:=hq2
 clear hb4 HC3
 have b0:=HZ4.out.cell 0 rfl
 have b1:=HZ4.out.cell 1 rfl
 have b2:=HZ4.out.cell 2 rfl
 have b3:=HZ4.out.cell 3 rfl
 have y0:=HZ4.out.z 0
 have y1:=HZ4.out.z 1
 have y2:=HZ4.out.z 2
 have y3:=HZ4.out.z 3
 go_wp2_with fail
 generalize hW9:World.setCell _ _ _=W9
 have HR9:Hid (Rec W9 w.heap.size #[.slice na4 ns.length nc4,.slice ra4 rs.length rc4,.int .i64 nn,.int .i64 nr] 25):=by rw [← hW9];exact (((HZ4.out.set 0 _).set 1 _).set 2 _).set 3 _
 have HB9:Hid (Below w.heap.size w W9):=by rw [← hW9];exact (((HB4.out.setCell (Nat.le_refl _) _).setCell (Nat.le_refl _) _).setCell (Nat.le_refl _) _).setCell (Nat.le_refl _) _
 have hs9:W9.heap.size=w4.heap.size:=by rw [← hW9];simp
 have HH9:Hid (∀ b,w.heap.size≠b→W9.heap[b]?=w4.heap[b]?):=fun b hb=>by
  rw [← hW9]
  repeat rw [Below.heap_setCell _ _ _ _ (Ne.symm hb)]
 have HF9:Hid (GraphF w.heap.size W9.heap.size W9 (.agg #[.slice na4 ns.length nc4,.slice ra4 rs.length rc4,.int .i64 nn,.int .i64 nr]) ⟨ns,rs,nn,nr⟩):=by
  rw [hs9]
  refine GraphF.mono (Nat.le_of_lt hs3) (Nat.le_refl _) (GraphF.keep ?_ HF4.out)
  intro b o h1 h2
  exact ⟨World.cell?_of_block (HH9.out b (by omega)),by unfold World.frozen?;rw [HH9.out b (by omega)]⟩
 clear hW9
 have q0:=HR9.out.cell 0 rfl
 have q1:=HR9.out.cell 1 rfl
 have q2:=HR9.out.cell 2 rfl
 have q3:=HR9.out.cell 3 rfl
 refine bodyPost_ret (v:=.agg #[.slice na4 ns.length nc4,.slice ra4 rs.length rc4,.int .i64 nn,.int .i64 nr]) ?_ rfl ⟨_,rfl,HF9.out,HB9.out⟩
 simp [results,Tryz.results19,go_sem,q0,q1,q2,q3]
theorem riseI_lt {next:Int}:∀ {ks:List Int} {l:Int},riseI next l ks=true→ks.Pairwise (·<·)
 | [],l,h=>List.Pairwise.nil
 | y::r,l,h=>by
  rw [riseI] at h
  simp only [Bool.and_eq_true,Bool.not_eq_true',decide_eq_false_iff_not] at h
  obtain ⟨h1,h2,h3⟩:=h
  have h4:=(riseI_all h3).1
  exact List.pairwise_cons.2 ⟨fun x hx=>by have:=h4 x hx;omega,riseI_lt h3⟩
theorem sortI_rise {ks:List Int} (h:ks.Pairwise (·<·)):sortI ks=ks:=by
 unfold sortI
 exact List.mergeSort_of_pairwise (h.imp fun h=>by simp;omega)
theorem ents_key {α:Type} {key:α→Int} {L:World→Value→α→Prop} {w:World} {N:List (Int × Value)} {xs:List α} (h:Ents key L w N xs):N.map Prod.fst=xs.map key:=by
 apply List.ext_getElem?
 intro i
 rw [List.getElem?_map,List.getElem?_map]
 by_cases hi:i<xs.length
 ·obtain ⟨x,hx⟩:∃ q,xs[i]?=some q:=⟨_,List.getElem?_eq_getElem hi⟩
  obtain ⟨v,h1,_⟩:=h.2 i x hx
  rw [hx,h1];rfl
 ·rw [List.getElem?_eq_none (by rw [h.1];omega),List.getElem?_eq_none (by omega)];rfl
theorem ents_uniq {α:Type} {key:α→Int} {L:World→Value→α→Prop} {w:World} {N:List (Int × Value)} {xs:List α} (h:Ents key L w N xs) (hd:(xs.map key).Nodup):Uniq N:=by
 have hd':(N.map Prod.fst).Nodup:=by rw [ents_key h];exact hd
 intro a ha b hb e
 obtain ⟨i,hi⟩:=List.getElem?_of_mem ha
 obtain ⟨j,hj⟩:=List.getElem?_of_mem hb
 obtain ⟨k,u⟩:=a
 obtain ⟨k',u'⟩:=b
 simp only at e
 subst e
 have:=nodup_at hd' hi hj
 subst this
 rw [hi] at hj
 injection hj with hj
 injection hj
theorem ents_mem {α:Type} {key:α→Int} {L:World→Value→α→Prop} {w:World} {N:List (Int × Value)} {xs:List α} (h:Ents key L w N xs):∀ x ∈ xs,∃ v,(key x,v) ∈ N∧L w v x:=by
 intro x hx
 obtain ⟨i,hi⟩:=List.getElem?_of_mem hx
 obtain ⟨v,h1,h2⟩:=h.2 i x hi
 exact ⟨v,List.mem_of_getElem? h1,h2⟩
theorem tell_made {b0:Nat} {g:GraphP} {p:GP} {B lo:Nat} {N R F T:List (Int × Value)} {w:World} (h:Holds b0 g p B lo N R F T w) (hc:checkPB g=true) (hz1:g.nodes.length≤2000000) (hz2:g.rels.length≤2000000) (ht:∀ r ∈ g.rels,r.type.size≤maxLen):TellOf B w N R g.nodes g.rels:=by
 unfold checkPB at hc
 simp only [Bool.and_eq_true] at hc
 have h1:=riseI_lt hc.2.1.1
 have h2:=riseI_lt hc.2.1.2
 have e1:=ents_key h.nodes
 have e2:=ents_key h.rels
 refine ⟨by rw [h.nodes.1];exact hz1,by rw [h.rels.1];exact hz2,?_,?_,ents_uniq h.nodes (h1.imp fun h=>by omega),ents_uniq h.rels (h2.imp fun h=>by omega),ents_mem h.nodes,ents_mem h.rels,ht⟩
 ·rw [e1,sortI_rise h1]
 ·rw [e2,sortI_rise h2]
end Go.Proofs.YteddjlbfbpecjaaGreatDoor

