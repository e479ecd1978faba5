/- A node and a relationship are put into blocks of their own. The labels of a node, each once: the function that tells the next one. The texts of a list, as a function that tells them. -/
import Derived.Test.YteddjlbfbpecjaaGreatDoorJoin6
import Derived.Test.YteddjlbfbpecjaaGreatDoorJoin4
import Derived.Laws.Slices
import Derived.Test.YteddjlbfbpecjaaGreatDoorJoin3
import Derived.Test.YteddjlbfbpecjaaGreatDoorGmap
namespace Go.Proofs.YteddjlbfbpecjaaGreatDoor
open Go.RowKit Go.Shelf
set_option maxRecDepth 10000
set_option linter.unusedVariables false
set_option linter.unusedSimpArgs false
structure Put (X:Nat) (w w':World) (cs:Array Value) (ty:TypeId):Prop where
 r:Rec w' X cs ty
 other:∀ i,i≠X→w'.heap[i]?=w.heap[i]?
 size:w'.heap.size=w.heap.size
 below:Below X w w'
theorem put_set {X:Nat} {w w':World} {cs:Array Value} {ty:TypeId} (h:Put X w w' cs ty) (i:Nat) (v:Value):Put X w (w'.setCell ⟨X,i,none⟩ v) (cs.setIfInBounds i v) ty :=
 ⟨h.r.set i v,fun j hj=>(Below.heap_setCell _ _ _ _ hj).trans (h.other j hj),by simp [World.setCell,h.size],h.below.setCell (Nat.le_refl _) _⟩
theorem put_refl {X:Nat} {w:World} {cs:Array Value} {ty:TypeId} (h:Rec w X cs ty):Put X w w cs ty:=⟨h,fun _ _=>rfl,rfl,Below.refl _ _⟩
theorem store47 (ρ:Operand→Value) (X:Nat) (w:World) (u0 u1 u2:Value) (nn:Int) (pa:Option Addr) (pn pc:Nat) (h:Rec w X #[u0,u1,u2] 47) (e8:ρ (.tmp 8)=.pointer (some ⟨X,0,none⟩)) (e40:ρ (.tmp 40)=.agg #[.int .i64 nn,.slice none 0 0,.slice pa pn pc]) :
  ∃ w',(execOp ρ (⟨none,.store 47 (.tmp 8) (.tmp 40),0, "edit.go:22",#[⟨8,.data⟩,⟨7,.data⟩,⟨6,.chain⟩,⟨0,.phase⟩,⟨1,.phase⟩,⟨2,.phase⟩,⟨3,.phase⟩,⟨4,.phase⟩,⟨5,.phase⟩,⟨6,.phase⟩,⟨7,.phase⟩,⟨8,.phase⟩],none⟩:Oper)).run Tryz.prog w=.ok .skip w'∧Put X w w' #[.int .i64 nn,.slice none 0 0,.slice pa pn pc] 47:=by
 have c0:=h.cell 0 rfl
 have c1:=h.cell 1 rfl
 have c2:=h.cell 2 rfl
 have z0:=h.z 0
 have z1:=h.z 1
 have z2:=h.z 2
 refine ⟨((w.setCell ⟨X,0,none⟩ (.int .i64 nn)).setCell ⟨X,1,none⟩ (.slice none 0 0)).setCell ⟨X,2,none⟩ (.slice pa pn pc),?_,by simpa using put_set (put_set (put_set (put_refl h) 0 (.int .i64 nn)) 1 (.slice none 0 0)) 2 (.slice pa pn pc)⟩
 clear h
 go_simp
theorem store49 (ρ:Operand→Value) (X:Nat) (w:World) (u0 u1 u2 u3 u4:Value) (nn f t:Int) (s:ByteArray) (pa:Option Addr) (pn pc:Nat) (h:Rec w X #[u0,u1,u2,u3,u4] 49) (e8:ρ (.tmp 12)=.pointer (some ⟨X,0,none⟩)) (e40:ρ (.tmp 55)=.agg #[.int .i64 nn,.int .i64 f,.int .i64 t,.string s,.slice pa pn pc]) :
  ∃ w',(execOp ρ (⟨none,.store 49 (.tmp 12) (.tmp 55),0, "edit.go:44",#[⟨11,.data⟩,⟨10,.data⟩,⟨9,.chain⟩,⟨0,.phase⟩,⟨1,.phase⟩,⟨2,.phase⟩,⟨3,.phase⟩,⟨4,.phase⟩,⟨5,.phase⟩,⟨6,.phase⟩,⟨7,.phase⟩,⟨8,.phase⟩,⟨9,.phase⟩,⟨10,.phase⟩,⟨11,.phase⟩],none⟩:Oper)).run Tryz.prog w=.ok .skip w'∧Put X w w' #[.int .i64 nn,.int .i64 f,.int .i64 t,.string s,.slice pa pn pc] 49:=by
 have c0:=h.cell 0 rfl
 have c1:=h.cell 1 rfl
 have c2:=h.cell 2 rfl
 have c3:=h.cell 3 rfl
 have c4:=h.cell 4 rfl
 have z0:=h.z 0
 have z1:=h.z 1
 have z2:=h.z 2
 have z3:=h.z 3
 have z4:=h.z 4
 refine ⟨((((w.setCell ⟨X,0,none⟩ (.int .i64 nn)).setCell ⟨X,1,none⟩ (.int .i64 f)).setCell ⟨X,2,none⟩ (.int .i64 t)).setCell ⟨X,3,none⟩ (.string s)).setCell ⟨X,4,none⟩ (.slice pa pn pc),?_,by simpa using put_set (put_set (put_set (put_set (put_set (put_refl h) 0 (.int .i64 nn)) 1 (.int .i64 f)) 2 (.int .i64 t)) 3 (.string s)) 4 (.slice pa pn pc)⟩
 clear h
 go_simp
end Go.Proofs.YteddjlbfbpecjaaGreatDoor

namespace Go.Proofs.YteddjlbfbpecjaaGreatDoor
open Go.RowKit Go.Shelf
set_option maxRecDepth 100000
set_option linter.unusedVariables false
set_option linter.unusedSimpArgs false
attribute [local go_sem] Oper.semAt_some
def TextsAt (w:World) (lo g:Nat) (a:Option Addr) (ks:List ByteArray):Prop:=ks=[]∨∃ b off,a=some ⟨b,off,none⟩∧(lo≤b∧b<g)∧∀ i x,ks[i]?=some x→w.cell? ⟨b,off+i,none⟩=some (.string x)
theorem under44  : Tryz.prog.underlying 44=some (.slice (Tryz.prog.elem 44)):=by kernel_rfl
theorem size44 (w:World):(Go.sizeOf (Tryz.prog.elem 44)).run Tryz.prog w=.ok 1 w:=by
 have e:Tryz.prog.elem 44=9:=by kernel_rfl
 rw [e];exact Tryz.sizeOf9 w
theorem tail_run {w:World} {lo g:Nat} {a:Option Addr} {x:ByteArray} {r:List ByteArray} (h:TextsAt w lo g a (x::r)) (c:Nat) (hc:r.length+1≤c) :
  ∃ a',(∀ W,(Instr.sliceAt 44 (.slice a (r.length+1) c) (some (.int .i64 1)) none none).run Tryz.prog W=.ok (.slice a' r.length (c - 1)) W)∧TextsAt w lo g a' r:=by
 obtain ⟨b,off,rfl,hb,hat⟩:=h.resolve_left (by simp)
 have hrun:∀ W,(Instr.sliceAt 44 (.slice (some ⟨b,off,none⟩) (r.length+1) c) (some (.int .i64 1)) none none).run Tryz.prog W=.ok (sliced (some ⟨b,off,none⟩) 1 (r.length+1) c 1) W:=fun W=>by
  rw [run_sliceAt_slice W 44 _ _ _ _ under44,run_slice_l W 44 (some ⟨b,off,none⟩) (r.length+1) c under44 .i64 1 (by omega) (by omega),size44]
  rfl
 by_cases hc1:c=1
 ·refine ⟨some ⟨b,off,none⟩,fun W=>?_,.inl (List.eq_nil_of_length_eq_zero (by omega))⟩
  rw [hrun W]
  simp [sliced,hc1]
 ·refine ⟨some ⟨b,off+1,none⟩,fun W=>?_,.inr ⟨b,off+1,rfl,hb,fun i y hy=>?_⟩⟩
  ·rw [hrun W]
   simp [sliced,Addr.add]
   omega
  ·have:=hat (i+1) y (by simpa using hy)
   rwa [show off+(i+1)=off+1+i by omega] at this
theorem TextsAt.set {w:World} {lo g:Nat} {a:Option Addr} {ks:List ByteArray} (h:TextsAt w lo g a ks) (v:Value):TextsAt (w.setCell ⟨g,0,none⟩ v) lo g a ks :=
 h.imp id fun ⟨b,off,e,hb,hat⟩=>⟨b,off,e,hb,fun i x hx=>(World.cell?_of_block (Below.heap_setCell _ _ _ _ (Nat.ne_of_lt hb.2))).trans (hat i x hx)⟩
theorem next_none (g:Nat) (a:Option Addr) (c:Nat) (w:World) (h:Rec w g #[.slice a 0 c] 44):Calls Tryz.prog 138 #[.pointer (some ⟨g,0,none⟩)] w fun e w'=>e=.returned (.tuple #[.string ⟨#[]⟩,.bool false])∧w'=w:=by
 have c0:=h.cell 0 rfl
 clear h
 go_enter Tryz.func138,Tryz.ntmps138
 go_wp2_with fail
 go_ret2
 exact ⟨rfl,rfl⟩
def afterB (x:ByteArray) (r:List ByteArray):List ByteArray:=r.dropWhile fun y=>y.toList==x.toList
def lenAt (w:World) (g:Nat):Nat:=match w.cell? ⟨g,0,none⟩ with | some (.slice _ n _)=>n | _=>0
theorem lenAt_of {w:World} {g:Nat} {a:Option Addr} {n c:Nat} (h:Rec w g #[.slice a n c] 44):lenAt w g=n:=by
 unfold lenAt
 have e:w.cell? ⟨g,0,none⟩=some (.slice a n c):=h.cell 0 rfl
 rw [e]
structure Rest (w:World) (lo g:Nat) (wr:World) (ks:List ByteArray):Prop where
 at_:∃ a c,Rec wr g #[.slice a ks.length c] 44∧TextsAt wr lo g a ks∧ks.length≤c∧c≤9223372036854775807
 size:wr.heap.size=w.heap.size
 other:∀ b,b≠g→wr.heap[b]?=w.heap[b]?
 below:Below g w wr
set_option maxHeartbeats 4000000 in
theorem next_some (lo g:Nat) (x:ByteArray) (r:List ByteArray) (w:World) (h:Rest w lo g w (x::r)) :
  Calls Tryz.prog 138 #[.pointer (some ⟨g,0,none⟩)] w fun e w'=>e=.returned (.tuple #[.string x,.bool true])∧Rest w lo g w' (afterB x r):=by
 have HH:=hidE h
 obtain ⟨a,c,hr,ht,h1,h2⟩:=h.at_
 obtain ⟨b,off,e1,hb,hat⟩:=ht.resolve_left (by simp)
 subst e1
 have c0:w.cell? ⟨g,0,none⟩=some (.slice (some ⟨b,off,none⟩) (r.length+1) c):=hr.cell 0 rfl
 have d0:w.cell? ⟨b,off,none⟩=some (.string x):=hat 0 x rfl
 have hl0:((r.length+1:Nat):Int)≠0:=by omega
 clear h hr ht h1 hat
 go_enter Tryz.func138,Tryz.ntmps138
 go_wp2_with fail
 go_loopw [10] (fun _ wr=>∃ ks,Rest w lo g wr ks∧ks.dropWhile (fun y=>y.toList==x.toList)=afterB x r) (fun _ wr=>lenAt wr g)
 case atStart=>exact ⟨x::r,HH.out,by simp [afterB,List.dropWhile]⟩
 case round =>
  obtain ⟨ks,hR,hdw⟩:=hrel
  have HR:=hidE hR
  have HD:=hidE hdw
  clear hdw c0 d0
  obtain ⟨a',c',hr,ht,h3,h4⟩:=hR.at_
  have HM:=hidE (lenAt_of hr)
  cases ks with
  | nil =>
   have k0:wr.cell? ⟨g,0,none⟩=some (.slice a' 0 c'):=hr.cell 0 rfl
   clear hr ht hR HM
   go_wp2_with fail
   go_ret2
   have e:afterB x r=[]:=HD.out.symm
   exact ⟨rfl,by rw [e];exact HR.out⟩
  | cons y r' =>
   obtain ⟨b2,off2,e1,hb2,hat⟩:=ht.resolve_left (by simp)
   obtain ⟨a3,hsl,ht3⟩:=tail_run ht c' h3
   subst e1
   have k0:wr.cell? ⟨g,0,none⟩=some (.slice (some ⟨b2,off2,none⟩) (r'.length+1) c'):=hr.cell 0 rfl
   have k1:wr.cell? ⟨b2,off2,none⟩=some (.string y):=hat 0 y rfl
   have z0:=hr.z 0
   have hl0:(0:Int)<((r'.length+1:Nat):Int):=by omega
   have HT3:=hidE ht3
   have HRec:=hidE hr
   simp only [List.length_cons] at HM h3
   clear hat ht3 ht hr hR
   cases hxy:(y.toList==x.toList) with
   | true =>
    go_wp2_with fail
    go_roundw
    case rel =>
     refine ⟨r',⟨⟨a3,c' - 1,HRec.out.set 0 _,HT3.out.set _,by omega,by omega⟩,?_,?_,?_⟩,?_⟩
     ·simp [HR.out.size]
     ·intro q hq
      rw [Below.heap_setCell _ _ _ _ hq];exact HR.out.other q hq
     ·exact HR.out.below.setCell (p:=⟨g,0,none⟩) (Nat.le_refl _) _
     ·have:=HD.out
      rwa [List.dropWhile_cons,if_pos hxy] at this
    case measure =>
     rw [HM.out,lenAt_of (HRec.out.set 0 _)]
     omega
   | false =>
    go_wp2_with fail
    go_ret2
    have e:afterB x r=y::r':=by
     have:=HD.out
     rw [List.dropWhile_cons,if_neg (by simp [hxy])] at this
     exact this.symm
    exact ⟨rfl,by rw [e];exact HR.out⟩
end Go.Proofs.YteddjlbfbpecjaaGreatDoor

namespace Go.Proofs.YteddjlbfbpecjaaGreatDoor
open Go.RowKit Go.Shelf
set_option linter.unusedVariables false
set_option linter.unusedSimpArgs false
attribute [local go_sem] Oper.semAt_some
set_option maxRecDepth 100000 in
theorem valuesS_any (a:Option Addr) (n c:Nat) (w:World):Calls Tryz.prog 137 #[.slice a n c] w fun e w'=>e=.returned (.func (.func 176) #[] #[.pointer (some ⟨w.heap.size,0,none⟩)])∧w'=w.alloc (.cells #[.slice a n c] 44):=by
 go_enter Tryz.func137,Tryz.ntmps137
 go_wp2_with fail
 go_ret
 exact ⟨rfl,rfl⟩
end Go.Proofs.YteddjlbfbpecjaaGreatDoor

