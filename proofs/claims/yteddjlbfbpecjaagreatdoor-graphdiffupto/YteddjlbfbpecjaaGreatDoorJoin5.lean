import Derived.Test.YteddjlbfbpecjaaGreatDoorJoin4
import Derived.Shelf.SlGeneric
import Derived.Ground.SlgmProg
import Derived.Ground.GgzProg
import Derived.Shelf.SortM.Plain
import Derived.Shelf.SortM.SortNone
import Derived.Shelf.SlIterI.Nil
namespace Go.Proofs.YteddjlbfbpecjaaGreatDoor
set_option maxHeartbeats 4000000
set_option maxRecDepth 100000
set_option linter.all false
section
open Go.RowKit Go.Shelf
attribute [local go_sem] Oper.semAt_some
theorem Zpa (w:World) (d n:Nat):(Op.equalIn (d+1) 68 (.map (some n)) (.map none)).run Tryz.prog w=.ok false w:=by
 simp [Op.equalIn,run_underlying Tryz.underlying68]
theorem Zvb (w:World) (n:Nat):(binOp .neq 68 (.map (some n)) (.map none)).run Tryz.prog w=.ok (.bool true) w:=by
 have h:=Zpa w 9999 n
 simp only [binOp]
 simp [Op.equal,Op.maxDepth,h]
theorem Zvc {w:World} {b:Nat} {es:List (Int × Value)} (h:MI w b es):∃ j c,w.heap[b]?=some (.map j c)/\j.size=es.length:=by
 obtain ⟨j,c,h1,h2,h3⟩:=h
 refine ⟨j,c,h1,?_⟩
 have:=congrArg List.length h2
 simpa using this
section
variable {w:World} {p:GP} {nn nr:Int} {N R F T:List (Int × Value)}
theorem GS.c0 (h:GS w p nn nr N R F T):w.cell? ⟨p.g,0,none⟩=some (.map (some p.n)):=h.obj.cell 0 rfl
theorem GS.c1 (h:GS w p nn nr N R F T):w.cell? ⟨p.g,1,none⟩=some (.map (some p.r)):=h.obj.cell 1 rfl
theorem GS.c2 (h:GS w p nn nr N R F T):w.cell? ⟨p.g,2,none⟩=some (.int .i64 nn):=h.obj.cell 2 rfl
theorem GS.c3 (h:GS w p nn nr N R F T):w.cell? ⟨p.g,3,none⟩=some (.int .i64 nr):=h.obj.cell 3 rfl
theorem GS.c4 (h:GS w p nn nr N R F T):w.cell? ⟨p.g,4,none⟩=some (.map (some p.f)):=h.obj.cell 4 rfl
theorem GS.c5 (h:GS w p nn nr N R F T):w.cell? ⟨p.g,5,none⟩=some (.map (some p.t)):=h.obj.cell 5 rfl
end
theorem Zcw {w:World} {p:GP} {nn nr:Int} {N R F T:List (Int × Value)} (h:GS w p nn nr N R F T):Calls Tryz.prog 18 #[p.val] w fun e w'=>e=.returned (.bool true)/\w'=w:=by
 have c0:=h.c0
 have H:=Zvb w p.n
 clear h
 unfold GP.val
 go_enter Tryz.func18,Tryz.ntmps18
 go_wp2_with fail
 go_ret
 exact ⟨rfl,rfl⟩
structure PS (w:World) (p:GP) (nn nr:Int) (N R:List (Int × Value)):Prop where
 lt:p.g<w.heap.size
 c0:w.cell? ⟨p.g,0,none⟩=some (.map (some p.n))
 c1:w.cell? ⟨p.g,1,none⟩=some (.map (some p.r))
 c2:w.cell? ⟨p.g,2,none⟩=some (.int .i64 nn)
 c3:w.cell? ⟨p.g,3,none⟩=some (.int .i64 nr)
 n:MI w p.n N
 r:MI w p.r R
theorem GS.ps {w:World} {p:GP} {nn nr:Int} {N R F T:List (Int × Value)} (h:GS w p nn nr N R F T):PS w p nn nr N R:=⟨h.obj.lt,h.c0,h.c1,h.c2,h.c3,h.n,h.r⟩
theorem PS.below {w w':World} {p:GP} {nn nr:Int} {N R:List (Int × Value)} (h:PS w p nn nr N R) (i:Below w.heap.size w w'):PS w' p nn nr N R :=
 ⟨Nat.lt_of_lt_of_le h.lt i.size,(i.cell (p:=⟨p.g,0,none⟩) h.lt).trans h.c0,(i.cell (p:=⟨p.g,1,none⟩) h.lt).trans h.c1,(i.cell (p:=⟨p.g,2,none⟩) h.lt).trans h.c2,(i.cell (p:=⟨p.g,3,none⟩) h.lt).trans h.c3,h.n.below i (Nat.le_refl _),h.r.below i (Nat.le_refl _)⟩
theorem Zqq {w:World} {p:GP} {nn nr:Int} {N R:List (Int × Value)} (h:PS w p nn nr N R) (s:N.length+R.length<=2000000):Calls Tryz.prog 60 #[p.val] w fun e w'=>e=.returned (.int .i64 ((N.length:Int)+(R.length:Int)))/\Below w.heap.size w w':=by
 have c0:=h.c0
 have c1:=h.c1
 obtain ⟨j,I,C,x⟩:=Zvc h.n
 obtain ⟨br,D,L,e1⟩:=Zvc h.r
 rw [<- x,<- e1] at s |-
 have u:IntKind.i64.wrap ((j.size:Int)+(br.size:Int))=(j.size:Int)+(br.size:Int):=by rw [IntKind.wrap_i64];omega
 have M:∀ ty,(Builtin.len_ #[68] ty #[.map (some p.n)]).run Tryz.prog w.drew=.ok (goInt j.size) w.drew:=fun ty=>run_len_map _ 68 ty p.n j I Tryz.underlying68 C
 have l1:∀ ty,(Builtin.len_ #[69] ty #[.map (some p.r)]).run Tryz.prog w.drew=.ok (goInt br.size) w.drew:=fun ty=>run_len_map _ 69 ty p.r br D Tryz.underlying69 L
 clear h x e1
 unfold GP.val
 go_enter Tryz.func60,Tryz.ntmps60
 go_wp2_with fail
 go_region_with fail
 all_goals
  go_wp2_with fail
  go_ret
  refine ⟨?_,?_⟩
  ·first | rfl | (simp [u];done) | (simp [u];rfl)
  ·exact ⟨rfl,rfl,rfl,Nat.le_refl _,fun _ _=>rfl⟩
theorem Zqr {w:World} {p:GP} {nn nr:Int} {N R F T:List (Int × Value)} (h:GS w p nn nr N R F T) (s:N.length+R.length<65536) (k:Int) (m:k<4611686018427387904):Calls Tryz.prog 87 #[p.val,.int .i64 k] w fun e w'=>e=.returned (.bool false)/\Below w.heap.size w w':=by
 have B:=Zb (Zqq h.ps (by omega))
 have g1:¬ ((N.length:Int)+(R.length:Int)>=65536):=by omega
 have g2:¬ (k>=4611686018427387904):=by omega
 clear h
 unfold GP.val at B |-
 go_enter Tryz.func87,Tryz.ntmps87
 go_wp2_with fail
 refine B.out.mono ?_
 rintro e w1 ⟨rfl,i⟩
 have K:=Zb i
 clear i
 go_wp2_with fail
 go_ret
 exact ⟨by simp;omega,K.out⟩
def Zd8 (k:Int) (es:List (Int × Value)):Bool:=es.any fun q=>q.1==k
theorem Zpb {t e:TypeId} {z:Value} (y:Tryz.prog.underlying t=some (.map 2 e)) (G:∀ w,(zeroValue e).run Tryz.prog w=.ok z w) {w:World} {b:Nat} {es:List (Int × Value)} (h:MI w b es) (k:Int) (m:I64 k) (E:∀ p ∈ es,∀ q ∈ es,p.1=q.1->p.2=q.2) :
  ∃ v,((∃ q ∈ es,q.1=k/\v=q.2)\/v=z)/\(Instr.lookup t (.map (some b)) (.int .i64 k) true).run Tryz.prog w=.ok (.tuple #[v,.bool (Zd8 k es)]) w:=by
 by_cases hh:∃ q ∈ es,q.1=k
 ·obtain ⟨q,l,rfl⟩:=hh
  have i:Zd8 q.1 es=true:=List.any_eq_true.2 ⟨q,l,by simp⟩
  refine ⟨q.2,Or.inl ⟨q,l,rfl,rfl⟩,?_⟩
  rw [i]
  exact (Zk7 (z:=z) y h q.1 q.2 m l (fun p o e=>E p o q l e)).1
 ·have i:Zd8 k es=false:=by
   rw [Zd8,List.any_eq_false]
   intro q l
   simp only [beq_iff_eq]
   exact fun e=>hh ⟨q,l,e⟩
  refine ⟨z,Or.inr rfl,?_⟩
  rw [i]
  exact (Zmn y G h k m (fun p o e=>hh ⟨p,o,e⟩)).1
end
section
open Go.RowKit Go.Shelf
attribute [local go_sem] Oper.semAt_some
def Zg0 (v:Value):Prop:=∃ i a n c E D B,v=.agg #[.int .i64 i,.slice a n c,.slice E D B]
def Zub (v:Value):Prop:=∃ i f t s a n c,v=.agg #[.int .i64 i,.int .i64 f,.int .i64 t,.string s,.slice a n c]
def Zhn (es:List (Int × Value)):Prop:=∀ p ∈ es,∀ q ∈ es,p.1=q.1->p.2=q.2
theorem Tryz.underlying68'  : Tryz.prog.underlying 68=some (.map 2 47):=by kernel_rfl
theorem Tryz.underlying69'  : Tryz.prog.underlying 69=some (.map 2 49):=by kernel_rfl
theorem Jfw (w:World):(zeroValue 47).run Tryz.prog w=.ok (.agg #[.int .i64 0,.slice none 0 0,.slice none 0 0]) w:=by kernel_rfl
theorem Jfx (w:World):(zeroValue 49).run Tryz.prog w=.ok (.agg #[.int .i64 0,.int .i64 0,.int .i64 0,.string ⟨#[]⟩,.slice none 0 0]) w:=by kernel_rfl
theorem Zw8 {w:World} {b:Nat} {es:List (Int × Value)} (h:MI w b es) (y:Zhn es) (x:∀ q ∈ es,Zg0 q.2) (k:Int) (g:I64 k) :
  ∃ v,Zg0 v/\(Instr.lookup 68 (.map (some b)) (.int .i64 k) true).run Tryz.prog w=.ok (.tuple #[v,.bool (Zd8 k es)]) w:=by
 obtain ⟨v,h1,h2⟩:=Zpb Tryz.underlying68' Jfw h k g y
 refine ⟨v,?_,h2⟩
 rcases h1 with ⟨q,z,_,rfl⟩ | rfl
 ·exact x q z
 ·exact ⟨0,none,0,0,none,0,0,rfl⟩
theorem Jaf {w:World} {b:Nat} {es:List (Int × Value)} (h:MI w b es) (y:Zhn es) (x:∀ q ∈ es,Zub q.2) (k:Int) (g:I64 k) :
  ∃ v,Zub v/\(Instr.lookup 69 (.map (some b)) (.int .i64 k) true).run Tryz.prog w=.ok (.tuple #[v,.bool (Zd8 k es)]) w:=by
 obtain ⟨v,h1,h2⟩:=Zpb Tryz.underlying69' Jfx h k g y
 refine ⟨v,?_,h2⟩
 rcases h1 with ⟨q,z,_,rfl⟩ | rfl
 ·exact x q z
 ·exact ⟨0,0,0,⟨#[]⟩,none,0,0,rfl⟩
set_option maxRecDepth 100000 in
set_option maxHeartbeats 4000000 in
theorem Zw9 {w:World} {p:GP} {nn nr:Int} {N R F T:List (Int × Value)} (h:GS w p nn nr N R F T) (C:Zhn N) (G:Zhn R) (H:∀ q ∈ N,Zg0 q.2) (A:∀ q ∈ R,Zub q.2) (rel:Bool) (k:Int) (g:I64 k) :
  Calls Tryz.prog 91 #[p.val,.bool rel,.int .i64 k] w fun e w'=>e=.returned (.bool (rel&&Zd8 k R||!rel&&Zd8 k N))/\Below w.heap.size w w':=by
 have K:=Zb h
 obtain ⟨v,⟨i,a,n,c,E,D,B,rfl⟩,l1⟩:=Zw8 h.n C H k g
 have c0:=h.c0
 generalize Zd8 k N=hb at l1 |-
 clear C H
 unfold GP.val
 have l:Hid (∀ W,GS W p nn nr N R F T->∃ v,Zub v/\(Instr.lookup 69 (.map (some p.r)) (.int .i64 k) true).run Tryz.prog W=.ok (.tuple #[v,.bool (Zd8 k R)]) W):=fun W I=>Jaf I.r G A k g
 generalize Zd8 k R=hc at l |-
 clear h G A g
 go_enter Tryz.func91,Tryz.ntmps91
 go_upto_region 2 with fail
 generalize u:World.alloc _ _=W1
 have j:Hid (Below w.heap.size w W1):=by rw [<- u];exact (Below.refl _ _).alloc (Nat.le_refl _) _
 have o:=Zb (K.out.below j.out)
 clear u c0 l1
 obtain ⟨v,⟨M,P,t2,O,a2,L,e2,rfl⟩,l2⟩:=l.out W1 o.out
 have c1:=o.out.c1
 go_upto_region 3 with fail
 generalize m:World.alloc _ _=W2
 have d:Hid (Below w.heap.size w W2):=by rw [<- m];exact j.out.alloc j.out.size _
 clear m c1 l2
 cases rel with
 | true =>
  cases hc with
  | true=>go_wp2_with fail;go_ret;exact ⟨rfl,d.out⟩
  | false=>go_wp2_with fail;go_ret;exact ⟨rfl,d.out⟩
 | false=>go_wp2_with fail;go_ret;exact ⟨by simp,d.out⟩
end
section
open Go.Shelf
def Tryz.laysSlM5_f127_ren  : Go.Shelf.Ren:=⟨fun | 5=>127 | 8=>167 | 7=>166 | 19=>202 | 20=>203 | 10=>193 | 11=>194 | 12=>195 | 13=>196 | 14=>197 | 15=>198 | 16=>199 | 17=>200 | 18=>201 | 30=>230 | 31=>231 | 32=>232 | 33=>233 | 34=>234 | 35=>235 | 40=>253 | n=>n,fun | 23=>100 | 25=>2 | 3=>3 | 32=>200 | 22=>100 | 0=>0 | 44=>234 | 46=>236 | 4=>4 | 36=>227 | 35=>226 | 41=>164 | 5=>5 | 9=>9 | 53=>256 | 57=>260 | 63=>273 | 64=>274 | n=>n,fun | n=>n⟩
theorem Tryz.laysSlM5_f127  : Go.Proofs.SlLaysM.n5 Tryz.prog Tryz.laysSlM5_f127_ren:={
 mixed:=by kernel_rfl
 f5:=⟨Tryz.f127.name,by decide,Tryz.func127.trans (congrArg some (by kernel_rfl))⟩
 f7:=⟨Tryz.f166.name,by decide,Tryz.func166.trans (congrArg some (by kernel_rfl))⟩
 f8:=Tryz.func167.trans (congrArg some (by kernel_rfl))
 f10:=⟨Tryz.f193.name,by decide,Tryz.func193.trans (congrArg some (by kernel_rfl))⟩
 f11:=⟨Tryz.f194.name,by decide,Tryz.func194.trans (congrArg some (by kernel_rfl))⟩
 f12:=⟨Tryz.f195.name,by decide,Tryz.func195.trans (congrArg some (by kernel_rfl))⟩
 f13:=⟨Tryz.f196.name,by decide,Tryz.func196.trans (congrArg some (by kernel_rfl))⟩
 f14:=⟨Tryz.f197.name,by decide,Tryz.func197.trans (congrArg some (by kernel_rfl))⟩
 f15:=⟨Tryz.f198.name,by decide,Tryz.func198.trans (congrArg some (by kernel_rfl))⟩
 f16:=⟨Tryz.f199.name,by decide,Tryz.func199.trans (congrArg some (by kernel_rfl))⟩
 f17:=⟨Tryz.f200.name,by decide,Tryz.func200.trans (congrArg some (by kernel_rfl))⟩
 f18:=⟨Tryz.f201.name,by decide,Tryz.func201.trans (congrArg some (by kernel_rfl))⟩
 f19:=Tryz.func202.trans (congrArg some (by kernel_rfl))
 f20:=Tryz.func203.trans (congrArg some (by kernel_rfl))
 f30:=⟨Tryz.f230.name,by decide,Tryz.func230.trans (congrArg some (by kernel_rfl))⟩
 f31:=Tryz.func231.trans (congrArg some (by kernel_rfl))
 f32:=Tryz.func232.trans (congrArg some (by kernel_rfl))
 f33:=⟨Tryz.f233.name,by decide,Tryz.func233.trans (congrArg some (by kernel_rfl))⟩
 f34:=⟨Tryz.f234.name,by decide,Tryz.func234.trans (congrArg some (by kernel_rfl))⟩
 f35:=⟨Tryz.f235.name,by decide,Tryz.func235.trans (congrArg some (by kernel_rfl))⟩
 f40:=⟨Tryz.f253.name,by decide,Tryz.func253.trans (congrArg some (by kernel_rfl))⟩
 t0:=Tryz.underlying0
 a0:=Tryz.isAgg0
 z0:=Tryz.sizeOf0
 v0:=Tryz.zeroValue0
 t3:=Tryz.underlying3
 a3:=Tryz.isAgg3
 z3:=Tryz.sizeOf3
 v3:=Tryz.zeroValue3
 t4:=Tryz.underlying4
 a4:=Tryz.isAgg4
 z4:=Tryz.sizeOf4
 v4:=Tryz.zeroValue4
 t5:=Tryz.underlying5
 a5:=Tryz.isAgg5
 z5:=Tryz.sizeOf5
 v5:=Tryz.zeroValue5
 t9:=Tryz.underlying9
 a9:=Tryz.isAgg9
 z9:=Tryz.sizeOf9
 v9:=Tryz.zeroValue9
 t22:=Tryz.underlying100
 a22:=Tryz.isAgg100
 z22:=Tryz.sizeOf100
 v22:=Tryz.zeroValue100
 t23:=Tryz.underlying100
 a23:=Tryz.isAgg100
 z23:=Tryz.sizeOf100
 v23:=Tryz.zeroValue100
 t25:=Tryz.underlying2
 a25:=Tryz.isAgg2
 z25:=Tryz.sizeOf2
 v25:=Tryz.zeroValue2
 t32:=Tryz.underlying200
 a32:=Tryz.isAgg200
 z32:=Tryz.sizeOf200
 v32:=Tryz.zeroValue200
 t35:=Tryz.underlying226
 a35:=Tryz.isAgg226
 z35:=Tryz.sizeOf226
 v35:=Tryz.zeroValue226
 t36:=Tryz.underlying227
 a36:=Tryz.isAgg227
 z36:=Tryz.sizeOf227
 v36:=Tryz.zeroValue227
 t41:=Tryz.underlying164
 a41:=Tryz.isAgg164
 z41:=Tryz.sizeOf164
 v41:=Tryz.zeroValue164
 t44:=Tryz.underlying234
 a44:=Tryz.isAgg234
 z44:=Tryz.sizeOf234
 v44:=Tryz.zeroValue234
 t46:=Tryz.underlying236
 a46:=Tryz.isAgg236
 z46:=Tryz.sizeOf236
 v46:=Tryz.zeroValue236
 t53:=Tryz.underlying256
 a53:=Tryz.isAgg256
 z53:=Tryz.sizeOf256
 v53:=Tryz.zeroValue256
 t57:=Tryz.underlying260
 a57:=Tryz.isAgg260
 z57:=Tryz.sizeOf260
 v57:=Tryz.zeroValue260
 t63:=Tryz.underlying273
 a63:=Tryz.isAgg273
 z63:=Tryz.sizeOf273
 v63:=Tryz.zeroValue273
 t64:=Tryz.underlying274
 a64:=Tryz.isAgg274
 z64:=Tryz.sizeOf274
 v64:=Tryz.zeroValue274 }
open Go.Sort Go.RowKit in
theorem Tryz.slices_Sort_int (a off cap:Nat) (d:List Int) (w:World) (f:Holds (Value.int .i64) w a off d.toArray) (b:a<w.heap.size) (c:d.length<4611686018427387904) :
  Calls Tryz.prog 127 #[.slice (some ⟨a,off,none⟩) d.length cap] w fun e w' =>
   e=.returned (.tuple #[])/\∃ n os,w'=grow (putRow (Value.int .i64) (Sort.ahead w n) a off (d.mergeSort fun x y=>decide (x<=y)).toArray) os:=AnyM.slices_Sort_int Tryz.laysSlM5_f127 a off cap d w f b c
def Tryz.laysSlM6_f175_ren  : Go.Shelf.Ren:=⟨fun | 6=>175 | 8=>167 | 9=>218 | 19=>202 | 20=>203 | 21=>243 | 22=>244 | 23=>245 | 24=>246 | 25=>247 | 26=>248 | 27=>161 | 28=>249 | 29=>250 | 36=>255 | 31=>231 | 32=>232 | 37=>256 | 38=>257 | 39=>190 | 41=>258 | n=>n,fun | 27=>44 | 29=>9 | 3=>3 | 32=>200 | 26=>44 | 0=>0 | 44=>234 | 46=>236 | 4=>4 | 36=>227 | 35=>226 | 41=>164 | 5=>5 | 9=>9 | 53=>256 | 57=>260 | 63=>273 | 64=>274 | n=>n,fun | n=>n⟩
theorem Tryz.laysSlM6_f175  : Go.Proofs.SlLaysM.n6 Tryz.prog Tryz.laysSlM6_f175_ren:={
 mixed:=by kernel_rfl
 f6:=⟨Tryz.f175.name,by decide,Tryz.func175.trans (congrArg some (by kernel_rfl))⟩
 f8:=Tryz.func167.trans (congrArg some (by kernel_rfl))
 f9:=⟨Tryz.f218.name,by decide,Tryz.func218.trans (congrArg some (by kernel_rfl))⟩
 f19:=Tryz.func202.trans (congrArg some (by kernel_rfl))
 f20:=Tryz.func203.trans (congrArg some (by kernel_rfl))
 f21:=⟨Tryz.f243.name,by decide,Tryz.func243.trans (congrArg some (by kernel_rfl))⟩
 f22:=⟨Tryz.f244.name,by decide,Tryz.func244.trans (congrArg some (by kernel_rfl))⟩
 f23:=⟨Tryz.f245.name,by decide,Tryz.func245.trans (congrArg some (by kernel_rfl))⟩
 f24:=⟨Tryz.f246.name,by decide,Tryz.func246.trans (congrArg some (by kernel_rfl))⟩
 f25:=⟨Tryz.f247.name,by decide,Tryz.func247.trans (congrArg some (by kernel_rfl))⟩
 f26:=⟨Tryz.f248.name,by decide,Tryz.func248.trans (congrArg some (by kernel_rfl))⟩
 f27:=⟨Tryz.f161.name,by decide,Tryz.func161.trans (congrArg some (by kernel_rfl))⟩
 f28:=⟨Tryz.f249.name,by decide,Tryz.func249.trans (congrArg some (by kernel_rfl))⟩
 f29:=⟨Tryz.f250.name,by decide,Tryz.func250.trans (congrArg some (by kernel_rfl))⟩
 f31:=Tryz.func231.trans (congrArg some (by kernel_rfl))
 f32:=Tryz.func232.trans (congrArg some (by kernel_rfl))
 f36:=⟨Tryz.f255.name,by decide,Tryz.func255.trans (congrArg some (by kernel_rfl))⟩
 f37:=⟨Tryz.f256.name,by decide,Tryz.func256.trans (congrArg some (by kernel_rfl))⟩
 f38:=⟨Tryz.f257.name,by decide,Tryz.func257.trans (congrArg some (by kernel_rfl))⟩
 f39:=⟨Tryz.f190.name,by decide,Tryz.func190.trans (congrArg some (by kernel_rfl))⟩
 f41:=⟨Tryz.f258.name,by decide,Tryz.func258.trans (congrArg some (by kernel_rfl))⟩
 t0:=Tryz.underlying0
 a0:=Tryz.isAgg0
 z0:=Tryz.sizeOf0
 v0:=Tryz.zeroValue0
 t3:=Tryz.underlying3
 a3:=Tryz.isAgg3
 z3:=Tryz.sizeOf3
 v3:=Tryz.zeroValue3
 t4:=Tryz.underlying4
 a4:=Tryz.isAgg4
 z4:=Tryz.sizeOf4
 v4:=Tryz.zeroValue4
 t5:=Tryz.underlying5
 a5:=Tryz.isAgg5
 z5:=Tryz.sizeOf5
 v5:=Tryz.zeroValue5
 t9:=Tryz.underlying9
 a9:=Tryz.isAgg9
 z9:=Tryz.sizeOf9
 v9:=Tryz.zeroValue9
 t26:=Tryz.underlying44
 a26:=Tryz.isAgg44
 z26:=Tryz.sizeOf44
 v26:=Tryz.zeroValue44
 t27:=Tryz.underlying44
 a27:=Tryz.isAgg44
 z27:=Tryz.sizeOf44
 v27:=Tryz.zeroValue44
 t29:=Tryz.underlying9
 a29:=Tryz.isAgg9
 z29:=Tryz.sizeOf9
 v29:=Tryz.zeroValue9
 t32:=Tryz.underlying200
 a32:=Tryz.isAgg200
 z32:=Tryz.sizeOf200
 v32:=Tryz.zeroValue200
 t35:=Tryz.underlying226
 a35:=Tryz.isAgg226
 z35:=Tryz.sizeOf226
 v35:=Tryz.zeroValue226
 t36:=Tryz.underlying227
 a36:=Tryz.isAgg227
 z36:=Tryz.sizeOf227
 v36:=Tryz.zeroValue227
 t41:=Tryz.underlying164
 a41:=Tryz.isAgg164
 z41:=Tryz.sizeOf164
 v41:=Tryz.zeroValue164
 t44:=Tryz.underlying234
 a44:=Tryz.isAgg234
 z44:=Tryz.sizeOf234
 v44:=Tryz.zeroValue234
 t46:=Tryz.underlying236
 a46:=Tryz.isAgg236
 z46:=Tryz.sizeOf236
 v46:=Tryz.zeroValue236
 t53:=Tryz.underlying256
 a53:=Tryz.isAgg256
 z53:=Tryz.sizeOf256
 v53:=Tryz.zeroValue256
 t57:=Tryz.underlying260
 a57:=Tryz.isAgg260
 z57:=Tryz.sizeOf260
 v57:=Tryz.zeroValue260
 t63:=Tryz.underlying273
 a63:=Tryz.isAgg273
 z63:=Tryz.sizeOf273
 v63:=Tryz.zeroValue273
 t64:=Tryz.underlying274
 a64:=Tryz.isAgg274
 z64:=Tryz.sizeOf274
 v64:=Tryz.zeroValue274 }
open Go.Sort Go.RowKit in
theorem Tryz.slices_Sort_string (a off cap:Nat) (ss:List (List UInt8)) (w:World) (f:Holds encStr w a off ss.toArray) (b:a<w.heap.size) (c:ss.length<4611686018427387904) :
  Calls Tryz.prog 175 #[.slice (some ⟨a,off,none⟩) ss.length cap] w fun e w' =>
   e=.returned (.tuple #[])/\∃ n os,w'=grow (putRow encStr (Sort.ahead w n) a off (ss.mergeSort fun x y=>decide (x<=y)).toArray) os:=AnyM.slices_Sort_string Tryz.laysSlM6_f175 a off cap ss w f b c
open Go.RowKit Go.Sort in
theorem Tryz.slices_Sort_string_none (p:Option Addr) (cap:Nat) (w:World) :
  Calls Tryz.prog 175 #[.slice p 0 cap] w fun e w'=>e=.returned (.tuple #[])/\w'=w:=AnyM.slices_Sort_string_none Tryz.laysSlM6_f175 p cap w
open Go.RowKit Go.Sort in
theorem Tryz.slices_Sort_int_none (p:Option Addr) (cap:Nat) (w:World) :
  Calls Tryz.prog 127 #[.slice p 0 cap] w fun e w'=>e=.returned (.tuple #[])/\w'=w:=AnyM.slices_Sort_int_none Tryz.laysSlM5_f127 p cap w
def Tryz.keysN_ren  : Go.Shelf.Ren:=⟨fun | 7=>155 | 10=>188 | n=>n,fun | 23=>68 | 26=>2 | 3=>47 | 28=>168 | 0=>0 | 27=>167 | 33=>138 | 4=>4 | n=>n,fun | n=>n⟩
theorem Tryz.keysN  : Go.Proofs.SlLaysZI.n7 Tryz.prog Tryz.keysN_ren:={
 mixed:=by kernel_rfl
 f7:=⟨Tryz.f155.name,by decide,Tryz.func155.trans (congrArg some (by kernel_rfl))⟩
 f10:=⟨Tryz.f188.name,by decide,Tryz.func188.trans (congrArg some (by kernel_rfl))⟩
 t0:=Tryz.underlying0
 a0:=Tryz.isAgg0
 z0:=Tryz.sizeOf0
 v0:=Tryz.zeroValue0
 t4:=Tryz.underlying4
 a4:=Tryz.isAgg4
 z4:=Tryz.sizeOf4
 v4:=Tryz.zeroValue4
 t23:=Tryz.underlying68
 a23:=Tryz.isAgg68
 z23:=Tryz.sizeOf68
 v23:=Tryz.zeroValue68
 t26:=Tryz.underlying2
 a26:=Tryz.isAgg2
 z26:=Tryz.sizeOf2
 v26:=Tryz.zeroValue2
 t27:=Tryz.underlying167
 a27:=Tryz.isAgg167
 z27:=Tryz.sizeOf167
 v27:=Tryz.zeroValue167
 t28:=Tryz.underlying168
 a28:=Tryz.isAgg168
 z28:=Tryz.sizeOf168
 v28:=Tryz.zeroValue168
 t33:=Tryz.underlying138
 a33:=Tryz.isAgg138
 z33:=Tryz.sizeOf138
 v33:=Tryz.zeroValue138 }
def Tryz.keysR_ren  : Go.Shelf.Ren:=⟨fun | 7=>156 | 10=>189 | n=>n,fun | 23=>69 | 26=>2 | 3=>49 | 28=>168 | 0=>0 | 27=>167 | 33=>138 | 4=>4 | n=>n,fun | n=>n⟩
theorem Tryz.keysR  : Go.Proofs.SlLaysZI.n7 Tryz.prog Tryz.keysR_ren:={
 mixed:=by kernel_rfl
 f7:=⟨Tryz.f156.name,by decide,Tryz.func156.trans (congrArg some (by kernel_rfl))⟩
 f10:=⟨Tryz.f189.name,by decide,Tryz.func189.trans (congrArg some (by kernel_rfl))⟩
 t0:=Tryz.underlying0
 a0:=Tryz.isAgg0
 z0:=Tryz.sizeOf0
 v0:=Tryz.zeroValue0
 t4:=Tryz.underlying4
 a4:=Tryz.isAgg4
 z4:=Tryz.sizeOf4
 v4:=Tryz.zeroValue4
 t23:=Tryz.underlying69
 a23:=Tryz.isAgg69
 z23:=Tryz.sizeOf69
 v23:=Tryz.zeroValue69
 t26:=Tryz.underlying2
 a26:=Tryz.isAgg2
 z26:=Tryz.sizeOf2
 v26:=Tryz.zeroValue2
 t27:=Tryz.underlying167
 a27:=Tryz.isAgg167
 z27:=Tryz.sizeOf167
 v27:=Tryz.zeroValue167
 t28:=Tryz.underlying168
 a28:=Tryz.isAgg168
 z28:=Tryz.sizeOf168
 v28:=Tryz.zeroValue168
 t33:=Tryz.underlying138
 a33:=Tryz.isAgg138
 z33:=Tryz.sizeOf138
 v33:=Tryz.zeroValue138 }
def Tryz.sortedI_ren  : Go.Shelf.Ren:=⟨fun | 6=>154 | 8=>187 | 9=>127 | 11=>228 | 13=>167 | 12=>166 | 23=>202 | 24=>203 | 14=>193 | 15=>194 | 16=>195 | 17=>196 | 18=>197 | 19=>198 | 20=>199 | 21=>200 | 22=>201 | 25=>230 | 26=>231 | 27=>232 | 28=>233 | 29=>234 | 30=>235 | 31=>253 | n=>n,fun | 26=>2 | 28=>168 | 24=>100 | 0=>0 | 3=>3 | 37=>200 | 48=>234 | 50=>236 | 4=>4 | 40=>227 | 39=>226 | 45=>164 | 5=>5 | 9=>9 | 51=>256 | 55=>260 | 57=>273 | 58=>274 | 33=>138 | n=>n,fun | n=>n⟩
theorem Tryz.sortedI  : Go.Proofs.SlLaysZI.n6 Tryz.prog Tryz.sortedI_ren:={
 mixed:=by kernel_rfl
 f6:=⟨Tryz.f154.name,by decide,Tryz.func154.trans (congrArg some (by kernel_rfl))⟩
 f8:=⟨Tryz.f187.name,by decide,Tryz.func187.trans (congrArg some (by kernel_rfl))⟩
 f11:=⟨Tryz.f228.name,by decide,Tryz.func228.trans (congrArg some (by kernel_rfl))⟩
 t0:=Tryz.underlying0
 a0:=Tryz.isAgg0
 z0:=Tryz.sizeOf0
 v0:=Tryz.zeroValue0
 t24:=Tryz.underlying100
 a24:=Tryz.isAgg100
 z24:=Tryz.sizeOf100
 v24:=Tryz.zeroValue100
 t26:=Tryz.underlying2
 a26:=Tryz.isAgg2
 z26:=Tryz.sizeOf2
 v26:=Tryz.zeroValue2
 t28:=Tryz.underlying168
 a28:=Tryz.isAgg168
 z28:=Tryz.sizeOf168
 v28:=Tryz.zeroValue168
 i26:=by kernel_rfl }
end
section
open Go.RowKit Go.Shelf Go.Maps Go.WideElems
def Jcm  : Value->Option (DataW Unit × List MemPlace):=fun _=>some (.nil,[])
theorem Jeu {o:Array MapEntry} {d:Nat} {es:List (Int × Value)} (h:o.toList.map (fun e=>(e.key,e.val))=es.map (fun p=>(Value.int .i64 p.1,p.2))) (t:∀ p ∈ es,I64 p.1) (z:MapKept.Stamped o d) (H:es.length<=maxLen):Fit Tryz.prog 2 Jcm o d:=by
 refine ⟨?_,z,fun x R=>?_⟩
 ·have:=congrArg List.length h
  simp at this
  omega
 ·obtain ⟨l,D⟩:=Zfv h t x R
  exact ⟨(l,.nil),by simp [rd,D,Jcm]⟩
theorem Jid {o:Array MapEntry} {es:List (Int × Value)} (h:o.toList.map (fun e=>(e.key,e.val))=es.map (fun p=>(Value.int .i64 p.1,p.2))) (t:∀ p ∈ es,I64 p.1):o.toList.map (rg Tryz.prog 2 Jcm)=es.map fun p=>(Lit.int .i64 p.1,DataW.nil):=by
 have e1:o.toList.map (rg Tryz.prog 2 Jcm)=(o.toList.map (fun e=>(e.key,e.val))).map (fun q=>rg Tryz.prog 2 Jcm ⟨q.1,q.2,0⟩):=by
  rw [List.map_map]
  apply List.map_congr_left
  intro x _
  simp [rg,rd]
 rw [e1,h,List.map_map]
 apply List.map_congr_left
 intro p C
 have:=keyOf_int_mk (P:=Tryz.prog) Tryz.underlying2 (t p C)
 simp [rg,rd,this,Jcm]
theorem Zim (x:Lit × DataW Unit):∀ l,(DataW.insert x l).Perm (x::l)
 | []=>List.Perm.refl _
 | y::r=>by
  unfold DataW.insert
  split
  ·exact List.Perm.refl _
  ·exact ((Zim x r).cons y).trans (List.Perm.swap x y r)
theorem Zec  : ∀ l:List (Lit × DataW Unit),(l.foldr DataW.insert []).Perm l
 | []=>List.Perm.refl _
 | x::r=>(Zim x _).trans ((Zec r).cons x)
def Zpc (es:List (Int × Value)):DataW Unit:=.map ((es.map fun p=>(Lit.int .i64 p.1,DataW.nil)).foldr DataW.insert [])
theorem Zke (es:List (Int × Value)):(intKeys (Zpc es)).Perm (es.map (·.1)):=by
 have h:=(Zec (es.map fun p=>(Lit.int .i64 p.1,DataW.nil))).map (fun p=>Go.intOf p.1)
 simpa [Zpc,intKeys,Function.comp_def,Go.intOf] using h
theorem Zkf (es:List (Int × Value)):Maps.size (Zpc es)=es.length:=by
 have h:=(Zec (es.map fun p=>(Lit.int .i64 p.1,DataW.nil))).length_eq
 simpa [Zpc,Maps.size] using h
theorem Zvd {w:World} {b:Nat} {es:List (Int × Value)} (h:MI w b es) (H:es.length<=maxLen):w.ownsMap Tryz.prog 2 Jcm b es.length (Zpc es):=by
 obtain ⟨o,d,h1,h2,h3,z⟩:=h
 refine ⟨o,d,h1,Jeu h2 h3 z H,?_,?_⟩
 ·have:=congrArg List.length h2
  simp at this
  omega
 ·rw [Jid h2 h3];rfl
theorem Tryz.sortsI (m:Nat):AnyZI.SortsIn Tryz.prog Tryz.sortedI_ren Fence.wide m :=
 ⟨fun O off cap ss W T E g=>callsIn_wide.2 (Tryz.slices_Sort_int O off cap ss W T E g),fun p cap W=>callsIn_wide.2 (Tryz.slices_Sort_int_none p cap W)⟩
def Zff (S:List Int):List Int:=S.mergeSort fun x y=>decide (x<=y)
theorem Zkg {xs ys:List Int} (h:xs.Perm ys):Zff xs=Zff ys:=by
 have Q:∀ a b c:Int,decide (a<=b)=true->decide (b<=c)=true->decide (a<=c)=true:=fun a b c h1 h2=>by simp at *;omega
 have tt:∀ a b:Int,(decide (a<=b)||decide (b<=a))=true:=fun a b=>by simp;omega
 refine List.Perm.eq_of_pairwise (le:=fun a b=>decide (a<=b)=true) ?_ (List.pairwise_mergeSort Q tt xs) (List.pairwise_mergeSort Q tt ys) (((List.mergeSort_perm _ _).trans h).trans (List.mergeSort_perm _ _).symm)
 intro a b _ _ h1 h2
 simp at h1 h2
 omega
theorem Zne {w:World} {b:Nat} {es:List (Int × Value)} (h:MI w b es) (H:es.length<=2000000):Calls Tryz.prog 111 #[.map (some b)] w fun e w'=>∃ v,e=.returned v/\w'.ownsRow w.heap.size 2 1 v es.length ((Zff (es.map (·.1))).map (Value.int .i64))/\Below w.heap.size w w':=by
 have f:=Zvd h (by unfold maxLen;omega)
 have g:=Zkf es
 have k:=Zke es
 generalize Zpc es=D0 at f g k
 refine (callsIn_wide (n:=6)).1 ?_
 have B:=f.lt
 have i:SeqGives Fence.wide 2 Tryz.prog 188 #[.pointer (some ⟨w.heap.size,0,none⟩)] encZ (fun ss=>ss.Perm (intKeys D0)) (Maps.size D0) (w.alloc (.cells #[.map (some b)] 68)) :=
  AnyZI.keys_gives (ρ:=Tryz.keysN_ren) { Tryz.keysN with } Fence.wide _ trivial rfl (by omega) w.heap.size b es.length D0 _ (by simp) (by simp) (by
   obtain ⟨u,d,A,N,t,M⟩:=f
   exact ⟨u,d,(Below.heap_alloc _ _ b B).trans A,N,t,M⟩)
 have L:∀ s W,CallsIn Fence.wide 5 Tryz.prog 155 #[.map s] W fun e w'=>e=.returned (.func (.func 188) #[] #[.pointer (some ⟨W.heap.size,0,none⟩)])/\w'=W.alloc (.cells #[.map s] 68):=fun s W=>AnyZI.keys_in Tryz.keysN Fence.wide 5 trivial rfl s W
 have F:=AnyZI.sorted_in Tryz.sortedI Fence.wide 5 trivial trivial trivial trivial rfl (by omega) (Tryz.sortsI _) (enters_of Tryz.func127 (by kernel_rfl) rfl) 188 #[.pointer (some ⟨w.heap.size,0,none⟩)] trivial (enters_of Tryz.func188 (by kernel_rfl) rfl) _ _ (by rw [g];unfold maxLen;omega) (by rw [g];omega) _ i
 change CallsIn _ _ Tryz.prog 154 _ _ _ at F
 have K:Fence.wide.fn 155:=trivial
 have I:Fence.wide.fn 154:=trivial
 refine callsIn_of_wp Tryz.func111 rfl trivial ?_ rfl
 simp only [Tryz.ntmps111,List.size_toArray,List.length_cons,List.length_nil,Nat.reduceAdd,Nat.reduceSub,Array.replicate_succ,Array.replicate_zero,List.push_toArray,List.append_toArray,List.nil_append,List.cons_append]
 gi_wp2_with (first
  | (gi_at_call 155;refine (L _ _).mono ?_;rintro e w' ⟨rfl,rfl⟩)
  | (gi_at_call 154;refine F.mono ?_;rintro e w' ⟨v,ss,rfl,z,j,G,A⟩))
 go_ret
 have C:ss.Perm (es.map (·.1)):=z.trans k
 refine ⟨v,rfl,?_,((Below.refl _ w).alloc (Nat.le_refl _) _).trans (A.mono (by simp))⟩
 have D:ss.length=es.length:=by rw [C.length_eq,List.length_map]
 rw [<- Zkg C,<- D]
 exact ownsRow_base_a j (by simp)
theorem Znf {w:World} {b:Nat} {es:List (Int × Value)} (h:MI w b es) (H:es.length<=2000000):Calls Tryz.prog 112 #[.map (some b)] w fun e w'=>∃ v,e=.returned v/\w'.ownsRow w.heap.size 2 1 v es.length ((Zff (es.map (·.1))).map (Value.int .i64))/\Below w.heap.size w w':=by
 have f:=Zvd h (by unfold maxLen;omega)
 have g:=Zkf es
 have k:=Zke es
 generalize Zpc es=D0 at f g k
 refine (callsIn_wide (n:=6)).1 ?_
 have B:=f.lt
 have i:SeqGives Fence.wide 2 Tryz.prog 189 #[.pointer (some ⟨w.heap.size,0,none⟩)] encZ (fun ss=>ss.Perm (intKeys D0)) (Maps.size D0) (w.alloc (.cells #[.map (some b)] 69)) :=
  AnyZI.keys_gives (ρ:=Tryz.keysR_ren) { Tryz.keysR with } Fence.wide _ trivial rfl (by omega) w.heap.size b es.length D0 _ (by simp) (by simp) (by
   obtain ⟨u,d,A,N,t,M⟩:=f
   exact ⟨u,d,(Below.heap_alloc _ _ b B).trans A,N,t,M⟩)
 have L:∀ s W,CallsIn Fence.wide 5 Tryz.prog 156 #[.map s] W fun e w'=>e=.returned (.func (.func 189) #[] #[.pointer (some ⟨W.heap.size,0,none⟩)])/\w'=W.alloc (.cells #[.map s] 69):=fun s W=>AnyZI.keys_in Tryz.keysR Fence.wide 5 trivial rfl s W
 have F:=AnyZI.sorted_in Tryz.sortedI Fence.wide 5 trivial trivial trivial trivial rfl (by omega) (Tryz.sortsI _) (enters_of Tryz.func127 (by kernel_rfl) rfl) 189 #[.pointer (some ⟨w.heap.size,0,none⟩)] trivial (enters_of Tryz.func189 (by kernel_rfl) rfl) _ _ (by rw [g];unfold maxLen;omega) (by rw [g];omega) _ i
 change CallsIn _ _ Tryz.prog 154 _ _ _ at F
 have K:Fence.wide.fn 156:=trivial
 have I:Fence.wide.fn 154:=trivial
 refine callsIn_of_wp Tryz.func112 rfl trivial ?_ rfl
 simp only [Tryz.ntmps112,List.size_toArray,List.length_cons,List.length_nil,Nat.reduceAdd,Nat.reduceSub,Array.replicate_succ,Array.replicate_zero,List.push_toArray,List.append_toArray,List.nil_append,List.cons_append]
 gi_wp2_with (first
  | (gi_at_call 156;refine (L _ _).mono ?_;rintro e w' ⟨rfl,rfl⟩)
  | (gi_at_call 154;refine F.mono ?_;rintro e w' ⟨v,ss,rfl,z,j,G,A⟩))
 go_ret
 have C:ss.Perm (es.map (·.1)):=z.trans k
 refine ⟨v,rfl,?_,((Below.refl _ w).alloc (Nat.le_refl _) _).trans (A.mono (by simp))⟩
 have D:ss.length=es.length:=by rw [C.length_eq,List.length_map]
 rw [<- Zkg C,<- D]
 exact ownsRow_base_a j (by simp)
end
