/- A graph that is there: whether it is, whether it has a thing, whether it is full. Whether a graph has a thing. The shelf's contracts at this dump: sorting, the keys of maps by number. -/
import Derived.Test.YteddjlbfbpecjaaGreatDoorJoin4
import Derived.Shelf.SlGeneric
import Derived.Ground.SlgmProg
import Derived.Ground.GgzProg
import Derived.Shelf.SortM.Plain
import Derived.Shelf.SortM.SortNone
import Derived.Shelf.SlIterI.Nil
import Derived.Test.YteddjlbfbpecjaaGreatDoorProg
namespace Go.Proofs.YteddjlbfbpecjaaGreatDoor
open Go.RowKit Go.Shelf
set_option maxHeartbeats 4000000
set_option maxRecDepth 100000
set_option linter.unusedVariables false
set_option linter.unusedSimpArgs false
attribute [local go_sem] Oper.semAt_some
theorem equal_somem (w:World) (d n:Nat):(Op.equalIn (d+1) 68 (.map (some n)) (.map none)).run Tryz.prog w=.ok false w:=by
 simp [Op.equalIn,run_underlying Tryz.underlying68]
theorem neq_somem (w:World) (n:Nat):(binOp .neq 68 (.map (some n)) (.map none)).run Tryz.prog w=.ok (.bool true) w:=by
 have h:=equal_somem w 9999 n
 simp only [binOp]
 simp [Op.equal,Op.maxDepth,h]
theorem mi_open {w:World} {b:Nat} {es:List (Int × Value)} (h:MI w b es):∃ ar c,w.heap[b]?=some (.map ar c)∧ar.size=es.length:=by
 obtain ⟨ar,c,h1,h2,h3⟩:=h
 refine ⟨ar,c,h1,?_⟩
 have:=congrArg List.length h2
 simpa using this
section
variable {w:World} {p:GP} {nn nr:Int} {N R F T:List (Int × Value)}
theorem GS.c0 (h:GS w p nn nr N R F T):w.cell? ⟨p.g,0,none⟩=some (.map (some p.n)):=h.obj.cell 0 rfl
theorem GS.c1 (h:GS w p nn nr N R F T):w.cell? ⟨p.g,1,none⟩=some (.map (some p.r)):=h.obj.cell 1 rfl
theorem GS.c2 (h:GS w p nn nr N R F T):w.cell? ⟨p.g,2,none⟩=some (.int .i64 nn):=h.obj.cell 2 rfl
theorem GS.c3 (h:GS w p nn nr N R F T):w.cell? ⟨p.g,3,none⟩=some (.int .i64 nr):=h.obj.cell 3 rfl
theorem GS.c4 (h:GS w p nn nr N R F T):w.cell? ⟨p.g,4,none⟩=some (.map (some p.f)):=h.obj.cell 4 rfl
theorem GS.c5 (h:GS w p nn nr N R F T):w.cell? ⟨p.g,5,none⟩=some (.map (some p.t)):=h.obj.cell 5 rfl
end
theorem there_yes {w:World} {p:GP} {nn nr:Int} {N R F T:List (Int × Value)} (h:GS w p nn nr N R F T):Calls Tryz.prog 18 #[p.val] w fun e w'=>e=.returned (.bool true)∧w'=w:=by
 have c0:=h.c0
 have hnm:=neq_somem w p.n
 clear h
 unfold GP.val
 go_enter Tryz.func18,Tryz.ntmps18
 go_wp2_with fail
 go_ret
 exact ⟨rfl,rfl⟩
theorem size_yes {w:World} {p:GP} {nn nr:Int} {N R F T:List (Int × Value)} (h:GS w p nn nr N R F T) (hs:N.length+R.length≤2000000):Calls Tryz.prog 60 #[p.val] w fun e w'=>e=.returned (.int .i64 ((N.length:Int)+(R.length:Int)))∧Below w.heap.size w w':=by
 have c0:=h.c0
 have c1:=h.c1
 obtain ⟨ar,ca,m0,e0⟩:=mi_open h.n
 obtain ⟨br,cb,m1,e1⟩:=mi_open h.r
 rw [← e0,← e1] at hs ⊢
 have hw:IntKind.i64.wrap ((ar.size:Int)+(br.size:Int))=(ar.size:Int)+(br.size:Int):=by rw [IntKind.wrap_i64];omega
 have l0:∀ ty,(Builtin.len_ #[68] ty #[.map (some p.n)]).run Tryz.prog w.drew=.ok (goInt ar.size) w.drew:=fun ty=>run_len_map _ 68 ty p.n ar ca Tryz.underlying68 m0
 have l1:∀ ty,(Builtin.len_ #[69] ty #[.map (some p.r)]).run Tryz.prog w.drew=.ok (goInt br.size) w.drew:=fun ty=>run_len_map _ 69 ty p.r br cb Tryz.underlying69 m1
 clear h e0 e1
 unfold GP.val
 go_enter Tryz.func60,Tryz.ntmps60
 go_wp2_with fail
 go_region_with fail
 all_goals
  go_wp2_with fail
  go_ret
  refine ⟨?_,?_⟩
  ·first | rfl | (simp [hw];done) | (simp [hw];rfl)
  ·exact ⟨rfl,rfl,rfl,Nat.le_refl _,fun _ _=>rfl⟩
theorem full_not {w:World} {p:GP} {nn nr:Int} {N R F T:List (Int × Value)} (h:GS w p nn nr N R F T) (hs:N.length+R.length<65536) (k:Int) (hk:k<4611686018427387904):Calls Tryz.prog 87 #[p.val,.int .i64 k] w fun e w'=>e=.returned (.bool false)∧Below w.heap.size w w':=by
 have HC:=hidE (size_yes h (by omega))
 have g1:¬ ((N.length:Int)+(R.length:Int)≥65536):=by omega
 have g2:¬ (k≥4611686018427387904):=by omega
 clear h
 unfold GP.val at HC ⊢
 go_enter Tryz.func87,Tryz.ntmps87
 go_wp2_with fail
 refine HC.out.mono ?_
 rintro e w1 ⟨rfl,hb⟩
 have HB:=hidE hb
 clear hb
 go_wp2_with fail
 go_ret
 exact ⟨by simp;omega,HB.out⟩
def hasB (k:Int) (es:List (Int × Value)):Bool:=es.any fun q=>q.1==k
theorem mi_look {t e:TypeId} {z:Value} (ht:Tryz.prog.underlying t=some (.map 2 e)) (hz:∀ w,(zeroValue e).run Tryz.prog w=.ok z w) {w:World} {b:Nat} {es:List (Int × Value)} (h:MI w b es) (k:Int) (hk:I64 k) (hu:∀ p ∈ es,∀ q ∈ es,p.1=q.1→p.2=q.2) :
  ∃ v,((∃ q ∈ es,q.1=k∧v=q.2)∨v=z)∧(Instr.lookup t (.map (some b)) (.int .i64 k) true).run Tryz.prog w=.ok (.tuple #[v,.bool (hasB k es)]) w:=by
 by_cases hh:∃ q ∈ es,q.1=k
 ·obtain ⟨q,hq,rfl⟩:=hh
  have hb:hasB q.1 es=true:=List.any_eq_true.2 ⟨q,hq,by simp⟩
  refine ⟨q.2,Or.inl ⟨q,hq,rfl,rfl⟩,?_⟩
  rw [hb]
  exact (mi_hit (z:=z) ht h q.1 q.2 hk hq (fun p hp e=>hu p hp q hq e)).1
 ·have hb:hasB k es=false:=by
   rw [hasB,List.any_eq_false]
   intro q hq
   simp only [beq_iff_eq]
   exact fun e=>hh ⟨q,hq,e⟩
  refine ⟨z,Or.inr rfl,?_⟩
  rw [hb]
  exact (mi_miss ht hz h k hk (fun p hp e=>hh ⟨p,hp,e⟩)).1
end Go.Proofs.YteddjlbfbpecjaaGreatDoor

namespace Go.Proofs.YteddjlbfbpecjaaGreatDoor
open Go.RowKit Go.Shelf
set_option linter.unusedVariables false
set_option linter.unusedSimpArgs false
attribute [local go_sem] Oper.semAt_some
def NodeV (v:Value):Prop:=∃ i a n c a' n' c',v=.agg #[.int .i64 i,.slice a n c,.slice a' n' c']
def RelV (v:Value):Prop:=∃ i f t s a n c,v=.agg #[.int .i64 i,.int .i64 f,.int .i64 t,.string s,.slice a n c]
def Uniq (es:List (Int × Value)):Prop:=∀ p ∈ es,∀ q ∈ es,p.1=q.1→p.2=q.2
theorem Tryz.underlying68'  : Tryz.prog.underlying 68=some (.map 2 47):=by kernel_rfl
theorem Tryz.underlying69'  : Tryz.prog.underlying 69=some (.map 2 49):=by kernel_rfl
theorem zero47 (w:World):(zeroValue 47).run Tryz.prog w=.ok (.agg #[.int .i64 0,.slice none 0 0,.slice none 0 0]) w:=by kernel_rfl
theorem zero49 (w:World):(zeroValue 49).run Tryz.prog w=.ok (.agg #[.int .i64 0,.int .i64 0,.int .i64 0,.string ⟨#[]⟩,.slice none 0 0]) w:=by kernel_rfl
theorem node_look {w:World} {b:Nat} {es:List (Int × Value)} (h:MI w b es) (hu:Uniq es) (hv:∀ q ∈ es,NodeV q.2) (k:Int) (hk:I64 k) :
  ∃ v,NodeV v∧(Instr.lookup 68 (.map (some b)) (.int .i64 k) true).run Tryz.prog w=.ok (.tuple #[v,.bool (hasB k es)]) w:=by
 obtain ⟨v,h1,h2⟩:=mi_look Tryz.underlying68' zero47 h k hk hu
 refine ⟨v,?_,h2⟩
 rcases h1 with ⟨q,hq,_,rfl⟩ | rfl
 ·exact hv q hq
 ·exact ⟨0,none,0,0,none,0,0,rfl⟩
theorem rel_look {w:World} {b:Nat} {es:List (Int × Value)} (h:MI w b es) (hu:Uniq es) (hv:∀ q ∈ es,RelV q.2) (k:Int) (hk:I64 k) :
  ∃ v,RelV v∧(Instr.lookup 69 (.map (some b)) (.int .i64 k) true).run Tryz.prog w=.ok (.tuple #[v,.bool (hasB k es)]) w:=by
 obtain ⟨v,h1,h2⟩:=mi_look Tryz.underlying69' zero49 h k hk hu
 refine ⟨v,?_,h2⟩
 rcases h1 with ⟨q,hq,_,rfl⟩ | rfl
 ·exact hv q hq
 ·exact ⟨0,0,0,⟨#[]⟩,none,0,0,rfl⟩
set_option maxRecDepth 100000 in
set_option maxHeartbeats 4000000 in
theorem has_any {w:World} {p:GP} {nn nr:Int} {N R F T:List (Int × Value)} (h:GS w p nn nr N R F T) (hN:Uniq N) (hR:Uniq R) (hn:∀ q ∈ N,NodeV q.2) (hr:∀ q ∈ R,RelV q.2) (rel:Bool) (k:Int) (hk:I64 k) :
  Calls Tryz.prog 91 #[p.val,.bool rel,.int .i64 k] w fun e w'=>e=.returned (.bool (rel&&hasB k R||!rel&&hasB k N))∧Below w.heap.size w w':=by
 have HG:=hidE h
 obtain ⟨v,⟨i,a,n,c,a',n',c',rfl⟩,l1⟩:=node_look h.n hN hn k hk
 have c0:=h.c0
 generalize hasB k N=hb at l1 ⊢
 clear hN hn
 unfold GP.val
 have HRl:Hid (∀ W,GS W p nn nr N R F T→∃ v,RelV v∧(Instr.lookup 69 (.map (some p.r)) (.int .i64 k) true).run Tryz.prog W=.ok (.tuple #[v,.bool (hasB k R)]) W):=fun W hW=>rel_look hW.r hR hr k hk
 generalize hasB k R=hc at HRl ⊢
 clear h hR hr hk
 go_enter Tryz.func91,Tryz.ntmps91
 go_upto_region 2 with fail
 generalize hW1:World.alloc _ _=W1
 have HB1:Hid (Below w.heap.size w W1):=by rw [← hW1];exact (Below.refl _ _).alloc (Nat.le_refl _) _
 have HG1:=hidE (HG.out.below HB1.out)
 clear hW1 c0 l1
 obtain ⟨v,⟨i2,f2,t2,s2,a2,n2,e2,rfl⟩,l2⟩:=HRl.out W1 HG1.out
 have c1:=HG1.out.c1
 go_upto_region 3 with fail
 generalize hW2:World.alloc _ _=W2
 have HB2:Hid (Below w.heap.size w W2):=by rw [← hW2];exact HB1.out.alloc HB1.out.size _
 clear hW2 c1 l2
 cases rel with
 | true =>
  cases hc with
  | true=>go_wp2_with fail;go_ret;exact ⟨rfl,HB2.out⟩
  | false=>go_wp2_with fail;go_ret;exact ⟨rfl,HB2.out⟩
 | false=>go_wp2_with fail;go_ret;exact ⟨by simp,HB2.out⟩
end Go.Proofs.YteddjlbfbpecjaaGreatDoor

namespace Go.Proofs
open Go.Shelf
def Tryz.laysSlM5_f127_ren  : Go.Shelf.Ren:=⟨fun | 5=>127 | 8=>167 | 7=>166 | 19=>202 | 20=>203 | 10=>193 | 11=>194 | 12=>195 | 13=>196 | 14=>197 | 15=>198 | 16=>199 | 17=>200 | 18=>201 | 30=>230 | 31=>231 | 32=>232 | 33=>233 | 34=>234 | 35=>235 | 40=>253 | n=>n,fun | 23=>100 | 25=>2 | 3=>3 | 32=>200 | 22=>100 | 0=>0 | 44=>234 | 46=>236 | 4=>4 | 36=>227 | 35=>226 | 41=>164 | 5=>5 | 9=>9 | 53=>256 | 57=>260 | 63=>273 | 64=>274 | n=>n,fun | n=>n⟩
theorem Tryz.laysSlM5_f127  : Go.Proofs.SlLaysM.n5 Tryz.prog Tryz.laysSlM5_f127_ren:={
 mixed:=by kernel_rfl
 f5:=⟨Tryz.f127.name,by decide,Tryz.func127.trans (congrArg some (by kernel_rfl))⟩
 f7:=⟨Tryz.f166.name,by decide,Tryz.func166.trans (congrArg some (by kernel_rfl))⟩
 f8:=Tryz.func167.trans (congrArg some (by kernel_rfl))
 f10:=⟨Tryz.f193.name,by decide,Tryz.func193.trans (congrArg some (by kernel_rfl))⟩
 f11:=⟨Tryz.f194.name,by decide,Tryz.func194.trans (congrArg some (by kernel_rfl))⟩
 f12:=⟨Tryz.f195.name,by decide,Tryz.func195.trans (congrArg some (by kernel_rfl))⟩
 f13:=⟨Tryz.f196.name,by decide,Tryz.func196.trans (congrArg some (by kernel_rfl))⟩
 f14:=⟨Tryz.f197.name,by decide,Tryz.func197.trans (congrArg some (by kernel_rfl))⟩
 f15:=⟨Tryz.f198.name,by decide,Tryz.func198.trans (congrArg some (by kernel_rfl))⟩
 f16:=⟨Tryz.f199.name,by decide,Tryz.func199.trans (congrArg some (by kernel_rfl))⟩
 f17:=⟨Tryz.f200.name,by decide,Tryz.func200.trans (congrArg some (by kernel_rfl))⟩
 f18:=⟨Tryz.f201.name,by decide,Tryz.func201.trans (congrArg some (by kernel_rfl))⟩
 f19:=Tryz.func202.trans (congrArg some (by kernel_rfl))
 f20:=Tryz.func203.trans (congrArg some (by kernel_rfl))
 f30:=⟨Tryz.f230.name,by decide,Tryz.func230.trans (congrArg some (by kernel_rfl))⟩
 f31:=Tryz.func231.trans (congrArg some (by kernel_rfl))
 f32:=Tryz.func232.trans (congrArg some (by kernel_rfl))
 f33:=⟨Tryz.f233.name,by decide,Tryz.func233.trans (congrArg some (by kernel_rfl))⟩
 f34:=⟨Tryz.f234.name,by decide,Tryz.func234.trans (congrArg some (by kernel_rfl))⟩
 f35:=⟨Tryz.f235.name,by decide,Tryz.func235.trans (congrArg some (by kernel_rfl))⟩
 f40:=⟨Tryz.f253.name,by decide,Tryz.func253.trans (congrArg some (by kernel_rfl))⟩
 t0:=Tryz.underlying0
 a0:=Tryz.isAgg0
 z0:=Tryz.sizeOf0
 v0:=Tryz.zeroValue0
 t3:=Tryz.underlying3
 a3:=Tryz.isAgg3
 z3:=Tryz.sizeOf3
 v3:=Tryz.zeroValue3
 t4:=Tryz.underlying4
 a4:=Tryz.isAgg4
 z4:=Tryz.sizeOf4
 v4:=Tryz.zeroValue4
 t5:=Tryz.underlying5
 a5:=Tryz.isAgg5
 z5:=Tryz.sizeOf5
 v5:=Tryz.zeroValue5
 t9:=Tryz.underlying9
 a9:=Tryz.isAgg9
 z9:=Tryz.sizeOf9
 v9:=Tryz.zeroValue9
 t22:=Tryz.underlying100
 a22:=Tryz.isAgg100
 z22:=Tryz.sizeOf100
 v22:=Tryz.zeroValue100
 t23:=Tryz.underlying100
 a23:=Tryz.isAgg100
 z23:=Tryz.sizeOf100
 v23:=Tryz.zeroValue100
 t25:=Tryz.underlying2
 a25:=Tryz.isAgg2
 z25:=Tryz.sizeOf2
 v25:=Tryz.zeroValue2
 t32:=Tryz.underlying200
 a32:=Tryz.isAgg200
 z32:=Tryz.sizeOf200
 v32:=Tryz.zeroValue200
 t35:=Tryz.underlying226
 a35:=Tryz.isAgg226
 z35:=Tryz.sizeOf226
 v35:=Tryz.zeroValue226
 t36:=Tryz.underlying227
 a36:=Tryz.isAgg227
 z36:=Tryz.sizeOf227
 v36:=Tryz.zeroValue227
 t41:=Tryz.underlying164
 a41:=Tryz.isAgg164
 z41:=Tryz.sizeOf164
 v41:=Tryz.zeroValue164
 t44:=Tryz.underlying234
 a44:=Tryz.isAgg234
 z44:=Tryz.sizeOf234
 v44:=Tryz.zeroValue234
 t46:=Tryz.underlying236
 a46:=Tryz.isAgg236
 z46:=Tryz.sizeOf236
 v46:=Tryz.zeroValue236
 t53:=Tryz.underlying256
 a53:=Tryz.isAgg256
 z53:=Tryz.sizeOf256
 v53:=Tryz.zeroValue256
 t57:=Tryz.underlying260
 a57:=Tryz.isAgg260
 z57:=Tryz.sizeOf260
 v57:=Tryz.zeroValue260
 t63:=Tryz.underlying273
 a63:=Tryz.isAgg273
 z63:=Tryz.sizeOf273
 v63:=Tryz.zeroValue273
 t64:=Tryz.underlying274
 a64:=Tryz.isAgg274
 z64:=Tryz.sizeOf274
 v64:=Tryz.zeroValue274 }
open Go.Sort Go.RowKit in
theorem Tryz.slices_Sort_int (blk off cap:Nat) (zs:List Int) (w:World) (hH:Holds (Value.int .i64) w blk off zs.toArray) (hblk:blk<w.heap.size) (hsz:zs.length<4611686018427387904) :
  Calls Tryz.prog 127 #[.slice (some ⟨blk,off,none⟩) zs.length cap] w fun e w' =>
   e=.returned (.tuple #[])∧∃ n os,w'=grow (putRow (Value.int .i64) (Sort.ahead w n) blk off (zs.mergeSort fun x y=>decide (x≤y)).toArray) os:=AnyM.slices_Sort_int Tryz.laysSlM5_f127 blk off cap zs w hH hblk hsz
def Tryz.laysSlM6_f175_ren  : Go.Shelf.Ren:=⟨fun | 6=>175 | 8=>167 | 9=>218 | 19=>202 | 20=>203 | 21=>243 | 22=>244 | 23=>245 | 24=>246 | 25=>247 | 26=>248 | 27=>161 | 28=>249 | 29=>250 | 36=>255 | 31=>231 | 32=>232 | 37=>256 | 38=>257 | 39=>190 | 41=>258 | n=>n,fun | 27=>44 | 29=>9 | 3=>3 | 32=>200 | 26=>44 | 0=>0 | 44=>234 | 46=>236 | 4=>4 | 36=>227 | 35=>226 | 41=>164 | 5=>5 | 9=>9 | 53=>256 | 57=>260 | 63=>273 | 64=>274 | n=>n,fun | n=>n⟩
theorem Tryz.laysSlM6_f175  : Go.Proofs.SlLaysM.n6 Tryz.prog Tryz.laysSlM6_f175_ren:={
 mixed:=by kernel_rfl
 f6:=⟨Tryz.f175.name,by decide,Tryz.func175.trans (congrArg some (by kernel_rfl))⟩
 f8:=Tryz.func167.trans (congrArg some (by kernel_rfl))
 f9:=⟨Tryz.f218.name,by decide,Tryz.func218.trans (congrArg some (by kernel_rfl))⟩
 f19:=Tryz.func202.trans (congrArg some (by kernel_rfl))
 f20:=Tryz.func203.trans (congrArg some (by kernel_rfl))
 f21:=⟨Tryz.f243.name,by decide,Tryz.func243.trans (congrArg some (by kernel_rfl))⟩
 f22:=⟨Tryz.f244.name,by decide,Tryz.func244.trans (congrArg some (by kernel_rfl))⟩
 f23:=⟨Tryz.f245.name,by decide,Tryz.func245.trans (congrArg some (by kernel_rfl))⟩
 f24:=⟨Tryz.f246.name,by decide,Tryz.func246.trans (congrArg some (by kernel_rfl))⟩
 f25:=⟨Tryz.f247.name,by decide,Tryz.func247.trans (congrArg some (by kernel_rfl))⟩
 f26:=⟨Tryz.f248.name,by decide,Tryz.func248.trans (congrArg some (by kernel_rfl))⟩
 f27:=⟨Tryz.f161.name,by decide,Tryz.func161.trans (congrArg some (by kernel_rfl))⟩
 f28:=⟨Tryz.f249.name,by decide,Tryz.func249.trans (congrArg some (by kernel_rfl))⟩
 f29:=⟨Tryz.f250.name,by decide,Tryz.func250.trans (congrArg some (by kernel_rfl))⟩
 f31:=Tryz.func231.trans (congrArg some (by kernel_rfl))
 f32:=Tryz.func232.trans (congrArg some (by kernel_rfl))
 f36:=⟨Tryz.f255.name,by decide,Tryz.func255.trans (congrArg some (by kernel_rfl))⟩
 f37:=⟨Tryz.f256.name,by decide,Tryz.func256.trans (congrArg some (by kernel_rfl))⟩
 f38:=⟨Tryz.f257.name,by decide,Tryz.func257.trans (congrArg some (by kernel_rfl))⟩
 f39:=⟨Tryz.f190.name,by decide,Tryz.func190.trans (congrArg some (by kernel_rfl))⟩
 f41:=⟨Tryz.f258.name,by decide,Tryz.func258.trans (congrArg some (by kernel_rfl))⟩
 t0:=Tryz.underlying0
 a0:=Tryz.isAgg0
 z0:=Tryz.sizeOf0
 v0:=Tryz.zeroValue0
 t3:=Tryz.underlying3
 a3:=Tryz.isAgg3
 z3:=Tryz.sizeOf3
 v3:=Tryz.zeroValue3
 t4:=Tryz.underlying4
 a4:=Tryz.isAgg4
 z4:=Tryz.sizeOf4
 v4:=Tryz.zeroValue4
 t5:=Tryz.underlying5
 a5:=Tryz.isAgg5
 z5:=Tryz.sizeOf5
 v5:=Tryz.zeroValue5
 t9:=Tryz.underlying9
 a9:=Tryz.isAgg9
 z9:=Tryz.sizeOf9
 v9:=Tryz.zeroValue9
 t26:=Tryz.underlying44
 a26:=Tryz.isAgg44
 z26:=Tryz.sizeOf44
 v26:=Tryz.zeroValue44
 t27:=Tryz.underlying44
 a27:=Tryz.isAgg44
 z27:=Tryz.sizeOf44
 v27:=Tryz.zeroValue44
 t29:=Tryz.underlying9
 a29:=Tryz.isAgg9
 z29:=Tryz.sizeOf9
 v29:=Tryz.zeroValue9
 t32:=Tryz.underlying200
 a32:=Tryz.isAgg200
 z32:=Tryz.sizeOf200
 v32:=Tryz.zeroValue200
 t35:=Tryz.underlying226
 a35:=Tryz.isAgg226
 z35:=Tryz.sizeOf226
 v35:=Tryz.zeroValue226
 t36:=Tryz.underlying227
 a36:=Tryz.isAgg227
 z36:=Tryz.sizeOf227
 v36:=Tryz.zeroValue227
 t41:=Tryz.underlying164
 a41:=Tryz.isAgg164
 z41:=Tryz.sizeOf164
 v41:=Tryz.zeroValue164
 t44:=Tryz.underlying234
 a44:=Tryz.isAgg234
 z44:=Tryz.sizeOf234
 v44:=Tryz.zeroValue234
 t46:=Tryz.underlying236
 a46:=Tryz.isAgg236
 z46:=Tryz.sizeOf236
 v46:=Tryz.zeroValue236
 t53:=Tryz.underlying256
 a53:=Tryz.isAgg256
 z53:=Tryz.sizeOf256
 v53:=Tryz.zeroValue256
 t57:=Tryz.underlying260
 a57:=Tryz.isAgg260
 z57:=Tryz.sizeOf260
 v57:=Tryz.zeroValue260
 t63:=Tryz.underlying273
 a63:=Tryz.isAgg273
 z63:=Tryz.sizeOf273
 v63:=Tryz.zeroValue273
 t64:=Tryz.underlying274
 a64:=Tryz.isAgg274
 z64:=Tryz.sizeOf274
 v64:=Tryz.zeroValue274 }
open Go.Sort Go.RowKit in
theorem Tryz.slices_Sort_string (blk off cap:Nat) (ss:List (List UInt8)) (w:World) (hH:Holds encStr w blk off ss.toArray) (hblk:blk<w.heap.size) (hsz:ss.length<4611686018427387904) :
  Calls Tryz.prog 175 #[.slice (some ⟨blk,off,none⟩) ss.length cap] w fun e w' =>
   e=.returned (.tuple #[])∧∃ n os,w'=grow (putRow encStr (Sort.ahead w n) blk off (ss.mergeSort fun x y=>decide (x≤y)).toArray) os:=AnyM.slices_Sort_string Tryz.laysSlM6_f175 blk off cap ss w hH hblk hsz
open Go.RowKit Go.Sort in
theorem Tryz.slices_Sort_string_none (p:Option Addr) (cap:Nat) (w:World) :
  Calls Tryz.prog 175 #[.slice p 0 cap] w fun e w'=>e=.returned (.tuple #[])∧w'=w:=AnyM.slices_Sort_string_none Tryz.laysSlM6_f175 p cap w
open Go.RowKit Go.Sort in
theorem Tryz.slices_Sort_int_none (p:Option Addr) (cap:Nat) (w:World) :
  Calls Tryz.prog 127 #[.slice p 0 cap] w fun e w'=>e=.returned (.tuple #[])∧w'=w:=AnyM.slices_Sort_int_none Tryz.laysSlM5_f127 p cap w
def Tryz.keysN_ren  : Go.Shelf.Ren:=⟨fun | 7=>155 | 10=>188 | n=>n,fun | 23=>68 | 26=>2 | 3=>47 | 28=>168 | 0=>0 | 27=>167 | 33=>138 | 4=>4 | n=>n,fun | n=>n⟩
theorem Tryz.keysN  : Go.Proofs.SlLaysZI.n7 Tryz.prog Tryz.keysN_ren:={
 mixed:=by kernel_rfl
 f7:=⟨Tryz.f155.name,by decide,Tryz.func155.trans (congrArg some (by kernel_rfl))⟩
 f10:=⟨Tryz.f188.name,by decide,Tryz.func188.trans (congrArg some (by kernel_rfl))⟩
 t0:=Tryz.underlying0
 a0:=Tryz.isAgg0
 z0:=Tryz.sizeOf0
 v0:=Tryz.zeroValue0
 t4:=Tryz.underlying4
 a4:=Tryz.isAgg4
 z4:=Tryz.sizeOf4
 v4:=Tryz.zeroValue4
 t23:=Tryz.underlying68
 a23:=Tryz.isAgg68
 z23:=Tryz.sizeOf68
 v23:=Tryz.zeroValue68
 t26:=Tryz.underlying2
 a26:=Tryz.isAgg2
 z26:=Tryz.sizeOf2
 v26:=Tryz.zeroValue2
 t27:=Tryz.underlying167
 a27:=Tryz.isAgg167
 z27:=Tryz.sizeOf167
 v27:=Tryz.zeroValue167
 t28:=Tryz.underlying168
 a28:=Tryz.isAgg168
 z28:=Tryz.sizeOf168
 v28:=Tryz.zeroValue168
 t33:=Tryz.underlying138
 a33:=Tryz.isAgg138
 z33:=Tryz.sizeOf138
 v33:=Tryz.zeroValue138 }
def Tryz.keysR_ren  : Go.Shelf.Ren:=⟨fun | 7=>156 | 10=>189 | n=>n,fun | 23=>69 | 26=>2 | 3=>49 | 28=>168 | 0=>0 | 27=>167 | 33=>138 | 4=>4 | n=>n,fun | n=>n⟩
theorem Tryz.keysR  : Go.Proofs.SlLaysZI.n7 Tryz.prog Tryz.keysR_ren:={
 mixed:=by kernel_rfl
 f7:=⟨Tryz.f156.name,by decide,Tryz.func156.trans (congrArg some (by kernel_rfl))⟩
 f10:=⟨Tryz.f189.name,by decide,Tryz.func189.trans (congrArg some (by kernel_rfl))⟩
 t0:=Tryz.underlying0
 a0:=Tryz.isAgg0
 z0:=Tryz.sizeOf0
 v0:=Tryz.zeroValue0
 t4:=Tryz.underlying4
 a4:=Tryz.isAgg4
 z4:=Tryz.sizeOf4
 v4:=Tryz.zeroValue4
 t23:=Tryz.underlying69
 a23:=Tryz.isAgg69
 z23:=Tryz.sizeOf69
 v23:=Tryz.zeroValue69
 t26:=Tryz.underlying2
 a26:=Tryz.isAgg2
 z26:=Tryz.sizeOf2
 v26:=Tryz.zeroValue2
 t27:=Tryz.underlying167
 a27:=Tryz.isAgg167
 z27:=Tryz.sizeOf167
 v27:=Tryz.zeroValue167
 t28:=Tryz.underlying168
 a28:=Tryz.isAgg168
 z28:=Tryz.sizeOf168
 v28:=Tryz.zeroValue168
 t33:=Tryz.underlying138
 a33:=Tryz.isAgg138
 z33:=Tryz.sizeOf138
 v33:=Tryz.zeroValue138 }
def Tryz.sortedI_ren  : Go.Shelf.Ren:=⟨fun | 6=>154 | 8=>187 | 9=>127 | 11=>228 | 13=>167 | 12=>166 | 23=>202 | 24=>203 | 14=>193 | 15=>194 | 16=>195 | 17=>196 | 18=>197 | 19=>198 | 20=>199 | 21=>200 | 22=>201 | 25=>230 | 26=>231 | 27=>232 | 28=>233 | 29=>234 | 30=>235 | 31=>253 | n=>n,fun | 26=>2 | 28=>168 | 24=>100 | 0=>0 | 3=>3 | 37=>200 | 48=>234 | 50=>236 | 4=>4 | 40=>227 | 39=>226 | 45=>164 | 5=>5 | 9=>9 | 51=>256 | 55=>260 | 57=>273 | 58=>274 | 33=>138 | n=>n,fun | n=>n⟩
theorem Tryz.sortedI  : Go.Proofs.SlLaysZI.n6 Tryz.prog Tryz.sortedI_ren:={
 mixed:=by kernel_rfl
 f6:=⟨Tryz.f154.name,by decide,Tryz.func154.trans (congrArg some (by kernel_rfl))⟩
 f8:=⟨Tryz.f187.name,by decide,Tryz.func187.trans (congrArg some (by kernel_rfl))⟩
 f11:=⟨Tryz.f228.name,by decide,Tryz.func228.trans (congrArg some (by kernel_rfl))⟩
 t0:=Tryz.underlying0
 a0:=Tryz.isAgg0
 z0:=Tryz.sizeOf0
 v0:=Tryz.zeroValue0
 t24:=Tryz.underlying100
 a24:=Tryz.isAgg100
 z24:=Tryz.sizeOf100
 v24:=Tryz.zeroValue100
 t26:=Tryz.underlying2
 a26:=Tryz.isAgg2
 z26:=Tryz.sizeOf2
 v26:=Tryz.zeroValue2
 t28:=Tryz.underlying168
 a28:=Tryz.isAgg168
 z28:=Tryz.sizeOf168
 v28:=Tryz.zeroValue168
 i26:=by kernel_rfl }
end Go.Proofs

