/- The shelf's contracts at this dump: whether a text is UTF-8, and where a byte stands. Names: what the library's own variables hold, and which texts are names. A graph that is there: whether it is, whether it has a thing, whether it is full. -/
import Derived.Shelf.Unicode.ValidAny
import Derived.Shelf.Small.Strs
import Derived.Test.YthfilnflgahcjaaGreatDoorProg
import Derived.Test.YthfilnflgahcjaaGreatDoorJoin1
import Derived.Test.YthfilnflgahcjaaGreatDoorJoin10
import Derived.Test.YthfilnflgahcjaaGreatDoorJoin9
import Derived.Test.YthfilnflgahcjaaGreatDoorJoin7
namespace Go.Proofs
open Go.Shelf
def Tryz.laysValid_ren:Go.Shelf.Ren:=⟨fun | 196=>116 | 259=>141 | n=>n,fun | 9=>9 | 4=>4 | 3=>3 | 5=>5 | 12=>12 | 119=>204 | 0=>0 | 46=>171 | 139=>207 | 138=>206 | 53=>106 | n=>n,fun | 3=>0 | 4=>1 | n=>n⟩
theorem Tryz.laysValid:Go.Proofs.Lays.n196 Tryz.prog Tryz.laysValid_ren:={
 mixed:=by kernel_rfl
 f196:=Tryz.func116.trans (congrArg some (by kernel_rfl))
 f259:=Tryz.func141.trans (congrArg some (by kernel_rfl))
 t0:=Tryz.underlying0
 a0:=Tryz.isAgg0
 z0:=Tryz.sizeOf0
 v0:=Tryz.zeroValue0
 t3:=Tryz.underlying3
 a3:=Tryz.isAgg3
 z3:=Tryz.sizeOf3
 v3:=Tryz.zeroValue3
 t4:=Tryz.underlying4
 a4:=Tryz.isAgg4
 z4:=Tryz.sizeOf4
 v4:=Tryz.zeroValue4
 t5:=Tryz.underlying5
 a5:=Tryz.isAgg5
 z5:=Tryz.sizeOf5
 v5:=Tryz.zeroValue5
 t9:=Tryz.underlying9
 a9:=Tryz.isAgg9
 z9:=Tryz.sizeOf9
 v9:=Tryz.zeroValue9
 t12:=Tryz.underlying12
 a12:=Tryz.isAgg12
 z12:=Tryz.sizeOf12
 v12:=Tryz.zeroValue12
 t46:=Tryz.underlying171
 a46:=Tryz.isAgg171
 z46:=Tryz.sizeOf171
 v46:=Tryz.zeroValue171
 t53:=Tryz.underlying106
 a53:=Tryz.isAgg106
 z53:=Tryz.sizeOf106
 v53:=Tryz.zeroValue106
 t119:=Tryz.underlying204
 a119:=Tryz.isAgg204
 z119:=Tryz.sizeOf204
 t138:=Tryz.underlying206
 a138:=Tryz.isAgg206
 z138:=Tryz.sizeOf206
 v138:=Tryz.zeroValue206
 t139:=Tryz.underlying207
 a139:=Tryz.isAgg207
 z139:=Tryz.sizeOf207
 v139:=Tryz.zeroValue207
 g3:=by kernel_rfl
 g4:=by kernel_rfl }
def Tryz.lays137_ren:Go.Shelf.Ren:=⟨fun | 137=>157 | 217=>214 | 266=>244 | n=>n,fun | 9=>9 | 5=>5 | 3=>3 | n=>n,fun | n=>n⟩
theorem Tryz.lays137:Go.Proofs.Lays.n137 Tryz.prog Tryz.lays137_ren:={
 mixed:=by kernel_rfl
 f137:=Tryz.func157.trans (congrArg some (by kernel_rfl))
 f217:=Tryz.func214.trans (congrArg some (by kernel_rfl))
 f266:=Tryz.func244.trans (congrArg some (by kernel_rfl))
 t3:=Tryz.underlying3
 a3:=Tryz.isAgg3
 z3:=Tryz.sizeOf3
 v3:=Tryz.zeroValue3
 t5:=Tryz.underlying5
 a5:=Tryz.isAgg5
 z5:=Tryz.sizeOf5
 v5:=Tryz.zeroValue5
 t9:=Tryz.underlying9
 a9:=Tryz.isAgg9
 z9:=Tryz.sizeOf9
 v9:=Tryz.zeroValue9 }
open Go.RowKit in
theorem Tryz.strings_IndexByte (s:ByteArray) (c:Int) (w:World) :
  Calls Tryz.prog 157 #[.string s,.int .u8 c] w fun e w'=>e=.returned (.int .i64 (Lib.indexByte s.data.toList c.toNat.toUInt8))/\w'=w:=Any.strings_IndexByte Tryz.lays137 s c w
end Go.Proofs

namespace Go.Proofs.YthfilnflgahcjaaGreatDoor
open Go.RowKit Go.Shelf
set_option linter.all false
structure Env (w:World):Prop where
 room:3<=w.heap.size
 tabs:Lib.Utf8Tabs (Tryz.laysValid_ren.g 3) (Tryz.laysValid_ren.g 4) w
theorem Env.keep {w w':World} (h:Env w) (hk:∀ k,k<3->w'.heap[k]?=w.heap[k]?) (q:3<=w'.heap.size):Env w':=by
 have r:∀ p:Addr,p.block<3->w'.cell? p=w.cell? p:=fun p E=>World.cell?_of_block (hk _ E)
 refine ⟨q,⟨fun c hb=>?_,fun i f=>⟨?_,?_⟩⟩⟩
 ·rw [r _ (by show 0<3;decide)];exact h.tabs.1 c hb
 ·rw [r _ (by show 1<3;decide)];exact (h.tabs.2 i f).1
 ·rw [r _ (by show 1<3;decide)];exact (h.tabs.2 i f).2
theorem Env.below {w w':World} {B:Nat} (h:Env w) (hb:Below B w w') (hB:3<=B):Env w':=h.keep (fun k hk=>hb.block k (by omega)) (Nat.le_trans h.room hb.size)
theorem Zo3 (s:ByteArray) (q:s.size<=140737488355328) (w:World) (t:Env w):Calls Tryz.prog 116 #[.string s] w fun e w'=>e=.returned (.bool (Lib.validD s.data.toList))/\Below w.heap.size w w' :=
 Any.utf8_ValidString Tryz.laysValid s w (by omega) t.tabs
def Zfs (l:List UInt8):Bool:=decide (l.length>=1)&&decide (l.length<=64)&&Lib.validD l&&!l.contains 0
theorem index_ge (l:List UInt8) (c:UInt8):-1<=Lib.indexByte l c:=by
 induction l with
 | nil=>simp [Lib.indexByte]
 | cons b l ih =>
  rw [Lib.indexByte]
  split
  ·omega
  ·split<;>omega
theorem Zwe (l:List UInt8) (c:UInt8):(Lib.indexByte l c<0)↔l.contains c=false:=by
 induction l with
 | nil=>simp [Lib.indexByte]
 | cons b l ih =>
  rw [Lib.indexByte,List.contains_cons]
  by_cases h:b=c
  ·subst h;simp
  ·have n:(b==c)=false:=beq_eq_false_iff_ne.2 h
   have F:(c==b)=false:=beq_eq_false_iff_ne.2 (fun e=>h e.symm)
   rw [n,F]
   simp only [Bool.false_eq_true,if_false,Bool.false_or]
   have:=index_ge l c
   rw [<- ih]
   split
   ·rename_i e;simp only [beq_iff_eq] at e;omega
   ·rename_i e;simp only [beq_iff_eq] at e;omega
set_option maxHeartbeats 1000000 in
theorem Znm (s:ByteArray) (q:s.size<=140737488355328) (w:World) (t:Env w):Calls Tryz.prog 136 #[.string s] w fun e w'=>e=.returned (.bool (Zfs s.data.toList))/\Below w.heap.size w w':=by
 have d:Hid (Zfs s.data.toList=(decide (s.size>=1)&&decide (s.size<=64)&&Lib.validD s.data.toList&&!s.data.toList.contains 0)):=by
  show _=_
  unfold Zfs
  simp
 have o:=Za (Zwe s.data.toList 0)
 have A:=Za (Zo3 s q w t)
 have C:=Za (fun w=>Tryz.strings_IndexByte s 0 w)
 generalize Zfs s.data.toList=v at d |-
 generalize Lib.validD s.data.toList=u at d A
 have j:Hid (∀ w,Calls Tryz.prog 157 #[.string s,.int .u8 0] w fun e w'=>e=.returned (.int .i64 (Lib.indexByte s.data.toList 0))/\w'=w):=C.out
 generalize Lib.indexByte s.data.toList 0=i at o j
 generalize s.data.toList.contains 0=z at d o
 clear C
 go_enter Tryz.func136,Tryz.ntmps136
 by_cases h0:s.size=0
 ·have D:s.toList.isEmpty=true:=by
   rw [ByteArray.toList_eq,List.isEmpty_iff]
   exact List.eq_nil_of_length_eq_zero (by simpa using h0)
  have a:Hid (v=false):=by show _=_;rw [d.out,h0];simp
  clear h0
  go_wp2_with fail
  go_ret
  rw [a.out]
  exact ⟨rfl,Below.refl _ _⟩
 ·have D:s.toList.isEmpty=false:=by
   rw [ByteArray.toList_eq,Bool.eq_false_iff,ne_eq,List.isEmpty_iff]
   intro e
   have:=congrArg List.length e
   exact h0 (by simpa using this)
  by_cases n:s.size<=64
  ·have y:(s.size:Int)<=64:=by omega
   go_wp2_with fail
   refine A.out.mono ?_
   rintro e w1 ⟨rfl,hb⟩
   have x:=Za hb
   clear hb
   cases u with
   | true =>
    have a:Hid (v=!z):=by
     show _=_
     rw [d.out,decide_eq_true n,decide_eq_true (by omega:s.size>=1)];simp
    go_wp2_with fail
    refine (j.out _).mono ?_
    rintro e w2 ⟨rfl,rfl⟩
    by_cases f:i<0
    ·have m:z=false:=o.out.1 f
     go_wp2_with fail
     go_ret
     rw [a.out,m]
     exact ⟨rfl,x.out⟩
    ·have m:z=true:=by
      cases m:z with
      | true=>rfl
      | false=>exact absurd (o.out.2 m) f
     go_wp2_with fail
     go_ret
     rw [a.out,m]
     refine ⟨?_,x.out⟩
     show Ending.returned (.bool (decide (i<0)))=_
     rw [decide_eq_false (by omega)]
     rfl
   | false =>
    have a:Hid (v=false):=by show _=_;rw [d.out];simp
    go_wp2_with fail
    go_ret
    rw [a.out]
    exact ⟨rfl,x.out⟩
  ·have y:¬ (s.size:Int)<=64:=by omega
   have a:Hid (v=false):=by show _=_;rw [d.out,decide_eq_false n];simp
   go_wp2_with fail
   go_ret
   rw [a.out]
   exact ⟨rfl,Below.refl _ _⟩
end Go.Proofs.YthfilnflgahcjaaGreatDoor

namespace Go.Proofs.YthfilnflgahcjaaGreatDoor
open Go.RowKit Go.Shelf
set_option linter.all false
attribute [local go_sem] Oper.semAt_some
def Zwa (k:Int) (es:List (Int × Value)):Bool:=es.any fun q=>q.1==k
theorem Jc2 {t e:TypeId} {z:Value} (ht:Tryz.prog.underlying t=some (.map 2 e)) (g:∀ w,(zeroValue e).run Tryz.prog w=.ok z w) {w:World} {b:Nat} {es:List (Int × Value)} (h:MI w b es) (k:Int) (hk:I64 k) (f:∀ p ∈ es,∀ q ∈ es,p.1=q.1->p.2=q.2) :
  ∃ v,((∃ q ∈ es,q.1=k/\v=q.2)\/v=z)/\(Instr.lookup t (.map (some b)) (.int .i64 k) true).run Tryz.prog w=.ok (.tuple #[v,.bool (Zwa k es)]) w:=by
 by_cases hh:∃ q ∈ es,q.1=k
 ·obtain ⟨q,c,rfl⟩:=hh
  have hb:Zwa q.1 es=true:=List.any_eq_true.2 ⟨q,c,by simp⟩
  refine ⟨q.2,Or.inl ⟨q,c,rfl,rfl⟩,?_⟩
  rw [hb]
  exact (Jca (z:=z) ht h q.1 q.2 hk c (fun p d e=>f p d q c e)).1
 ·have hb:Zwa k es=false:=by
   rw [Zwa,List.any_eq_false]
   intro q c
   simp only [beq_iff_eq]
   exact fun e=>hh ⟨q,c,e⟩
  refine ⟨z,Or.inr rfl,?_⟩
  rw [hb]
  exact (Zwj ht g h k hk (fun p d e=>hh ⟨p,d,e⟩)).1
end Go.Proofs.YthfilnflgahcjaaGreatDoor

