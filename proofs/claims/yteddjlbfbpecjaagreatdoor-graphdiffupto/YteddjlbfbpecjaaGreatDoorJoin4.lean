import Derived.Test.YteddjlbfbpecjaaGreatDoorJoin3
import Derived.Shelf.Unicode.ValidAny
import Derived.Shelf.Small.Strs
import Derived.Test.YteddjlbfbpecjaaGreatDoorProg
namespace Go.Proofs.YteddjlbfbpecjaaGreatDoor
set_option linter.all false
section
open Go.RowKit Go.Shelf
def Rec (w:World) (b:Nat) (cs:Array Value) (ty:TypeId):Prop:=w.heap[b]?=some (.cells cs ty (0,0))
section
variable {w w':World} {b:Nat} {cs:Array Value} {ty:TypeId}
theorem Rec.lt (h:Rec w b cs ty):b<w.heap.size:=(Array.getElem?_eq_some_iff.1 h).1
theorem Rec.cell (h:Rec w b cs ty) (i:Nat) {v:Value} (d:cs[i]?=some v):w.cell? ⟨b,i,none⟩=some v:=by simp [World.cell?,show w.heap[b]?=_ from h,d]
theorem Rec.z (h:Rec w b cs ty) (i:Nat):w.frozen? ⟨b,i,none⟩=false:=by simp [World.frozen?,show w.heap[b]?=_ from h]
theorem Rec.keep (h:Rec w b cs ty) (e:w'.heap[b]?=w.heap[b]?):Rec w' b cs ty:=e.trans h
theorem Rec.below {B:Nat} (h:Rec w b cs ty) (g:Below B w w') (f:b<B):Rec w' b cs ty:=h.keep (g.block b f)
theorem Rec.other {q c:Nat} {u:Value} (h:Rec w b cs ty) (j:b≠q):Rec (w.setCell ⟨q,c,none⟩ u) b cs ty:=h.keep (Below.heap_setCell _ _ _ _ j)
theorem Rec.alloc (h:Rec w b cs ty) (o:Obj):Rec (w.alloc o) b cs ty:=h.keep (Below.heap_alloc _ _ _ h.lt)
theorem Rec.set (h:Rec w b cs ty) (i:Nat) (v:Value):Rec (w.setCell ⟨b,i,none⟩ v) b (cs.setIfInBounds i v) ty:=by
 have a:=h.lt
 have e:w.heap[b]=.cells cs ty (0,0):=by
  have:=show w.heap[b]?=_ from h
  rw [Array.getElem?_eq_getElem a] at this;exact Option.some.inj this
 unfold Rec
 simp [World.setCell,a,Array.getElem_modify,e]
theorem Zl (w:World) (cs:Array Value) (ty:TypeId):Rec (w.alloc (.cells cs ty)) w.heap.size cs ty:=World.alloc_heap_new _ _
end
end
section
open Go.RowKit Go.Shelf
attribute [local go_sem] Oper.semAt_some
structure GP  where
 g:Nat
 n:Nat
 r:Nat
 f:Nat
 t:Nat
def GP.Ok (p:GP) (B:Nat):Prop:=B<=p.g/\B<=p.n/\B<=p.r/\B<=p.f/\B<=p.t/\p.g≠p.n/\p.g≠p.r/\p.g≠p.f/\p.g≠p.t/\p.n≠p.r/\p.n≠p.f/\p.n≠p.t/\p.r≠p.f/\p.r≠p.t/\p.f≠p.t
def GP.cells (p:GP) (nn nr:Int):Array Value:=#[.map (some p.n),.map (some p.r),.int .i64 nn,.int .i64 nr,.map (some p.f),.map (some p.t)]
def GP.val (p:GP):Value:=.pointer (some ⟨p.g,0,none⟩)
structure GS (w:World) (p:GP) (nn nr:Int) (N R F T:List (Int × Value)):Prop where
 obj:Rec w p.g (p.cells nn nr) 74
 n:MI w p.n N
 r:MI w p.r R
 f:MI w p.f F
 t:MI w p.t T
theorem GS.below {w w':World} {p:GP} {nn nr:Int} {N R F T:List (Int × Value)} (h:GS w p nn nr N R F T) (a:Below w.heap.size w w'):GS w' p nn nr N R F T :=
 ⟨h.obj.below a h.obj.lt,h.n.below a (Nat.le_refl _),h.r.below a (Nat.le_refl _),h.f.below a (Nat.le_refl _),h.t.below a (Nat.le_refl _)⟩
end
section
open Go.Shelf
def Tryz.laysValid_ren  : Go.Shelf.Ren:=⟨fun | 196=>139 | 259=>177 | n=>n,fun | 9=>9 | 4=>4 | 3=>3 | 5=>5 | 12=>12 | 119=>213 | 0=>0 | 46=>200 | 139=>216 | 138=>215 | 53=>236 | n=>n,fun | 3=>0 | 4=>1 | n=>n⟩
theorem Tryz.laysValid  : Go.Proofs.Lays.n196 Tryz.prog Tryz.laysValid_ren:={
 mixed:=by kernel_rfl
 f196:=Tryz.func139.trans (congrArg some (by kernel_rfl))
 f259:=Tryz.func177.trans (congrArg some (by kernel_rfl))
 t0:=Tryz.underlying0
 a0:=Tryz.isAgg0
 z0:=Tryz.sizeOf0
 v0:=Tryz.zeroValue0
 t3:=Tryz.underlying3
 a3:=Tryz.isAgg3
 z3:=Tryz.sizeOf3
 v3:=Tryz.zeroValue3
 t4:=Tryz.underlying4
 a4:=Tryz.isAgg4
 z4:=Tryz.sizeOf4
 v4:=Tryz.zeroValue4
 t5:=Tryz.underlying5
 a5:=Tryz.isAgg5
 z5:=Tryz.sizeOf5
 v5:=Tryz.zeroValue5
 t9:=Tryz.underlying9
 a9:=Tryz.isAgg9
 z9:=Tryz.sizeOf9
 v9:=Tryz.zeroValue9
 t12:=Tryz.underlying12
 a12:=Tryz.isAgg12
 z12:=Tryz.sizeOf12
 v12:=Tryz.zeroValue12
 t46:=Tryz.underlying200
 a46:=Tryz.isAgg200
 z46:=Tryz.sizeOf200
 v46:=Tryz.zeroValue200
 t53:=Tryz.underlying236
 a53:=Tryz.isAgg236
 z53:=Tryz.sizeOf236
 v53:=Tryz.zeroValue236
 t119:=Tryz.underlying213
 a119:=Tryz.isAgg213
 z119:=Tryz.sizeOf213
 t138:=Tryz.underlying215
 a138:=Tryz.isAgg215
 z138:=Tryz.sizeOf215
 v138:=Tryz.zeroValue215
 t139:=Tryz.underlying216
 a139:=Tryz.isAgg216
 z139:=Tryz.sizeOf216
 v139:=Tryz.zeroValue216
 g3:=by kernel_rfl
 g4:=by kernel_rfl }
def Tryz.lays137_ren  : Go.Shelf.Ren:=⟨fun | 137=>140 | 217=>178 | 266=>219 | n=>n,fun | 9=>9 | 5=>5 | 3=>3 | n=>n,fun | n=>n⟩
theorem Tryz.lays137  : Go.Proofs.Lays.n137 Tryz.prog Tryz.lays137_ren:={
 mixed:=by kernel_rfl
 f137:=Tryz.func140.trans (congrArg some (by kernel_rfl))
 f217:=Tryz.func178.trans (congrArg some (by kernel_rfl))
 f266:=Tryz.func219.trans (congrArg some (by kernel_rfl))
 t3:=Tryz.underlying3
 a3:=Tryz.isAgg3
 z3:=Tryz.sizeOf3
 v3:=Tryz.zeroValue3
 t5:=Tryz.underlying5
 a5:=Tryz.isAgg5
 z5:=Tryz.sizeOf5
 v5:=Tryz.zeroValue5
 t9:=Tryz.underlying9
 a9:=Tryz.isAgg9
 z9:=Tryz.sizeOf9
 v9:=Tryz.zeroValue9 }
open Go.RowKit in
theorem Tryz.strings_IndexByte (s:ByteArray) (c:Int) (w:World) :
  Calls Tryz.prog 140 #[.string s,.int .u8 c] w fun e w'=>e=.returned (.int .i64 (Lib.indexByte s.data.toList c.toNat.toUInt8))/\w'=w:=Any.strings_IndexByte Tryz.lays137 s c w
end
section
open Go.RowKit Go.Shelf
structure Env (w:World):Prop where
 room:3<=w.heap.size
 tabs:Lib.Utf8Tabs (Tryz.laysValid_ren.g 3) (Tryz.laysValid_ren.g 4) w
theorem Env.keep {w w':World} (h:Env w) (A:∀ k,k<3->w'.heap[k]?=w.heap[k]?) (o:3<=w'.heap.size):Env w':=by
 have y:∀ p:Addr,p.block<3->w'.cell? p=w.cell? p:=fun p F=>World.cell?_of_block (A _ F)
 refine ⟨o,⟨fun c d=>?_,fun i j=>⟨?_,?_⟩⟩⟩
 ·rw [y _ (by show 0<3;decide)];exact h.tabs.1 c d
 ·rw [y _ (by show 1<3;decide)];exact (h.tabs.2 i j).1
 ·rw [y _ (by show 1<3;decide)];exact (h.tabs.2 i j).2
theorem Env.below {w w':World} {B:Nat} (h:Env w) (d:Below B w w') (H:3<=B):Env w':=h.keep (fun k A=>d.block k (by omega)) (Nat.le_trans h.room d.size)
theorem Zwg (s:ByteArray) (o:s.size<=140737488355328) (w:World) (t:Env w):Calls Tryz.prog 139 #[.string s] w fun e w'=>e=.returned (.bool (Lib.validD s.data.toList))/\Below w.heap.size w w' :=
 Any.utf8_ValidString Tryz.laysValid s w (by omega) t.tabs
def Ju (l:List UInt8):Bool:=decide (l.length>=1)&&decide (l.length<=64)&&Lib.validD l&&!l.contains 0
theorem Zzz (l:List UInt8) (c:UInt8):-1<=Lib.indexByte l c:=by
 induction l with
 | nil=>simp [Lib.indexByte]
 | cons b l ih =>
  rw [Lib.indexByte]
  split
  ·omega
  ·split<;>omega
theorem Zwh (l:List UInt8) (c:UInt8):(Lib.indexByte l c<0)↔l.contains c=false:=by
 induction l with
 | nil=>simp [Lib.indexByte]
 | cons b l ih =>
  rw [Lib.indexByte,List.contains_cons]
  by_cases h:b=c
  ·subst h;simp
  ·have h1:(b==c)=false:=beq_eq_false_iff_ne.2 h
   have h2:(c==b)=false:=beq_eq_false_iff_ne.2 (fun e=>h e.symm)
   rw [h1,h2]
   simp only [Bool.false_eq_true,if_false,Bool.false_or]
   have:=Zzz l c
   rw [<- ih]
   split
   ·rename_i e;simp only [beq_iff_eq] at e;omega
   ·rename_i e;simp only [beq_iff_eq] at e;omega
set_option maxHeartbeats 1000000 in
theorem Zev (s:ByteArray) (o:s.size<=140737488355328) (w:World) (t:Env w):Calls Tryz.prog 90 #[.string s] w fun e w'=>e=.returned (.bool (Ju s.data.toList))/\Below w.heap.size w w':=by
 have f:Hid (Ju s.data.toList=(decide (s.size>=1)&&decide (s.size<=64)&&Lib.validD s.data.toList&&!s.data.toList.contains 0)):=by
  show _=_
  unfold Ju
  simp
 have q:=Zb (Zwh s.data.toList 0)
 have C:=Zb (Zwg s o w t)
 have D:=Zb (fun w=>Tryz.strings_IndexByte s 0 w)
 generalize Ju s.data.toList=v at f |-
 generalize Lib.validD s.data.toList=u at f C
 have m:Hid (∀ w,Calls Tryz.prog 140 #[.string s,.int .u8 0] w fun e w'=>e=.returned (.int .i64 (Lib.indexByte s.data.toList 0))/\w'=w):=D.out
 generalize Lib.indexByte s.data.toList 0=i at q m
 generalize s.data.toList.contains 0=z at f q
 clear D
 go_enter Tryz.func90,Tryz.ntmps90
 by_cases h0:s.size=0
 ·have E:s.toList.isEmpty=true:=by
   rw [ByteArray.toList_eq,List.isEmpty_iff]
   exact List.eq_nil_of_length_eq_zero (by simpa using h0)
  have a:Hid (v=false):=by show _=_;rw [f.out,h0];simp
  clear h0
  go_wp2_with fail
  go_ret
  rw [a.out]
  exact ⟨rfl,Below.refl _ _⟩
 ·have E:s.toList.isEmpty=false:=by
   rw [ByteArray.toList_eq,Bool.eq_false_iff,ne_eq,List.isEmpty_iff]
   intro e
   have:=congrArg List.length e
   exact h0 (by simpa using this)
  by_cases h1:s.size<=64
  ·have x:(s.size:Int)<=64:=by omega
   go_wp2_with fail
   refine C.out.mono ?_
   rintro e w1 ⟨rfl,d⟩
   have r:=Zb d
   clear d
   cases u with
   | true =>
    have a:Hid (v=!z):=by
     show _=_
     rw [f.out,decide_eq_true h1,decide_eq_true (by omega:s.size>=1)];simp
    go_wp2_with fail
    refine (m.out _).mono ?_
    rintro e G ⟨rfl,rfl⟩
    by_cases j:i<0
    ·have n:z=false:=q.out.1 j
     go_wp2_with fail
     go_ret
     rw [a.out,n]
     exact ⟨rfl,r.out⟩
    ·have n:z=true:=by
      cases n:z with
      | true=>rfl
      | false=>exact absurd (q.out.2 n) j
     go_wp2_with fail
     go_ret
     rw [a.out,n]
     refine ⟨?_,r.out⟩
     show Ending.returned (.bool (decide (i<0)))=_
     rw [decide_eq_false (by omega)]
     rfl
   | false =>
    have a:Hid (v=false):=by show _=_;rw [f.out];simp
    go_wp2_with fail
    go_ret
    rw [a.out]
    exact ⟨rfl,r.out⟩
  ·have x:¬ (s.size:Int)<=64:=by omega
   have a:Hid (v=false):=by show _=_;rw [f.out,decide_eq_false h1];simp
   go_wp2_with fail
   go_ret
   rw [a.out]
   exact ⟨rfl,Below.refl _ _⟩
end
