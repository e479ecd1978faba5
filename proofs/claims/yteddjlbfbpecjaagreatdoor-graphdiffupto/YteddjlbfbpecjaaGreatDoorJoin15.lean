import Derived.Test.YteddjlbfbpecjaaGreatDoorJoin13
import Derived.Laws.IdiomCopy
import Derived.Laws.MakeOwn
namespace Go.Proofs.YteddjlbfbpecjaaGreatDoor
set_option linter.all false
section
open Go.RowKit Go.Shelf
def six (w:World) (b o:Nat) (v0 v1 v2 v3 v4 v5:Value):World:=w.setCells b o [v0,v1,v2,v3,v4,v5]
theorem Zlq {w:World} {b o:Nat} {v0 v1 v2 v3 v4 v5:Value} {d c:Nat} (h:d=b->c<o\/o+6<=c):(six w b o v0 v1 v2 v3 v4 v5).cell? ⟨d,c,none⟩=w.cell? ⟨d,c,none⟩ :=
 World.cell?_setCells_out b _ o w ⟨d,c,none⟩ (fun h1 _=>by have:=h h1;simpa using this)
theorem Jbw {w:World} {b o:Nat} {v0 v1 v2 v3 v4 v5:Value} (h:∀ j,j<6->(w.cell? ⟨b,o+j,none⟩).isSome=true) :
  (six w b o v0 v1 v2 v3 v4 v5).cell? ⟨b,o,none⟩=some v0/\(six w b o v0 v1 v2 v3 v4 v5).cell? ⟨b,o+1,none⟩=some v1/\(six w b o v0 v1 v2 v3 v4 v5).cell? ⟨b,o+2,none⟩=some v2/\(six w b o v0 v1 v2 v3 v4 v5).cell? ⟨b,o+3,none⟩=some v3 /\
   (six w b o v0 v1 v2 v3 v4 v5).cell? ⟨b,o+4,none⟩=some v4/\(six w b o v0 v1 v2 v3 v4 v5).cell? ⟨b,o+5,none⟩=some v5:=by
 have key:=World.cell?_setCells_in b [v0,v1,v2,v3,v4,v5] o w (by simpa using h)
 exact ⟨key 0 (by simp),key 1 (by simp),key 2 (by simp),key 3 (by simp),key 4 (by simp),key 5 (by simp)⟩
theorem Znj {B:Nat} {w w1:World} (h:Below B w w1) {b o:Nat} (a:B<=b) (v0 v1 v2 v3 v4 v5:Value):Below B w (six w1 b o v0 v1 v2 v3 v4 v5) :=
 (((((h.setCell (p:=⟨b,o,none⟩) a v0).setCell (p:=⟨b,o+1,none⟩) a v1).setCell (p:=⟨b,o+1+1,none⟩) a v2).setCell (p:=⟨b,o+1+1+1,none⟩) a v3).setCell (p:=⟨b,o+1+1+1+1,none⟩) a v4).setCell (p:=⟨b,o+1+1+1+1+1,none⟩) a v5
theorem Zlr {w:World} {b o:Nat} {v0 v1 v2 v3 v4 v5:Value}:(six w b o v0 v1 v2 v3 v4 v5).heap.size=w.heap.size:=by simp [six,World.setCells]
end
section
open Go.RowKit Go.Shelf
mutual
def Zln  : Zi->Prop
 | .mk k b n s ks ts=>s.size<=140737488355328/\ks.length<=140737488355328/\ts.length<=140737488355328/\(∀ x ∈ ks,x.size<=140737488355328)/\SaneL ts
def SaneL  : List Zi->Prop
 | []=>True
 | t::ts=>Zln t/\SaneL ts
end
theorem SaneL.mem  : ∀ {ts:List Zi} {t:Zi},SaneL ts->t ∈ ts->Zln t
 | u::us,t,h,c=>by
  simp only [SaneL] at h
  rcases List.mem_cons.1 c with rfl | c
  ·exact h.1
  ·exact SaneL.mem h.2 c
mutual
def Zi.total  : Zi->Int
 | .mk k b n s ks ts=>1+s.size+ks.length+Zx ks+Zi.totalL ts
def Zi.totalL  : List Zi->Int
 | []=>0
 | t::ts=>t.total+Zi.totalL ts
end
end
section
open Go.RowKit Go.Shelf Go.WideShapes
theorem Tryz.info60  : (Tryz.prog.info? 60).map (fun i=>(i.zero,i.size,i.bytes))=some (some (.agg #[.int .i64 0,.bool false,.int .i64 0,.string ⟨#[]⟩,.slice none 0 0,.slice none 0 0]),6,88):=by kernel_rfl
mutual
theorem Zno  : ∀ (T:Zi),1<=T.total
 | .mk k b n s ks ts=>by
  have:=totalL_len ts
  have:=Jz ks
  simp only [Zi.total];omega
theorem totalL_len  : ∀ (l:List Zi),(l.length:Int)<=Zi.totalL l
 | []=>by simp [Zi.totalL]
 | t::ts=>by
  have h:=Zno t
  have g:=totalL_len ts
  simp only [Zi.totalL,List.length_cons];omega
end
theorem Zgw  : ∀ {ts:List Zi} {t:Zi},t ∈ ts->t.total<=Zi.totalL ts
 | u::us,t,h=>by
  have h1:=totalL_len us
  have h2:=Zno u
  rcases List.mem_cons.1 h with rfl | h
  ·simp only [Zi.totalL];omega
  ·have:=Zgw h;simp only [Zi.totalL];omega
def Jbx (w:World) (g n:Nat):Prop:=∀ o,o<n*6->(w.cell? ⟨g,o,none⟩).isSome=true/\w.frozen? ⟨g,o,none⟩=false
theorem Jbx.below {w w':World} {g n:Nat} (h:Jbx w g n) (c:Below w.heap.size w w') (d:g<w.heap.size):Jbx w' g n:=fun o f=>by
 rw [c.cell (p:=⟨g,o,none⟩) d,c.frozen (p:=⟨g,o,none⟩) d];exact h o f
theorem Jez (w:World) (b o:Nat) (v0 v1 v2 v3 v4 v5:Value):(((((w.setCell ⟨b,o,none⟩ v0).setCell ⟨b,o+1,none⟩ v1).setCell ⟨b,o+2,none⟩ v2).setCell ⟨b,o+3,none⟩ v3).setCell ⟨b,o+4,none⟩ v4).setCell ⟨b,o+5,none⟩ v5=six w b o v0 v1 v2 v3 v4 v5:=rfl
theorem Zdn {w:World} {b o:Nat} {v0 v1 v2 v3 v4 v5:Value} (a:Addr):(six w b o v0 v1 v2 v3 v4 v5).frozen? a=w.frozen? a:=by
 simp only [six,World.setCells,World.frozen?_setCell]
theorem Jbx.six {w:World} {g n o:Nat} (h:Jbx w g n) (f:o+6<=n*6) (v0 v1 v2 v3 v4 v5:Value):Jbx (six w g o v0 v1 v2 v3 v4 v5) g n:=fun p m=>by
 rw [Zdn]
 refine ⟨?_,(h p m).2⟩
 by_cases hin:p<o\/o+6<=p
 ·rw [Zlq (fun _=>hin)];exact (h p m).1
 ·obtain ⟨q,rfl⟩:∃ q,p=o+q:=⟨p - o,by omega⟩
  obtain ⟨c0,c1,c2,c3,c4,c5⟩:=Jbw (w:=w) (b:=g) (o:=o) (v0:=v0) (v1:=v1) (v2:=v2) (v3:=v3) (v4:=v4) (v5:=v5) (fun j v=>(h (o+j) (by omega)).1)
  match q,(show q<6 by omega) with
  | 0,_=>rw [Nat.add_zero,c0];rfl
  | 1,_=>rw [c1];rfl
  | 2,_=>rw [c2];rfl
  | 3,_=>rw [c3];rfl
  | 4,_=>rw [c4];rfl
  | 5,_=>rw [c5];rfl
theorem Zit {ts:List Zi} {p:Nat} {t:Zi} (h:ts[p]?=some t):ts.take (p+1)=ts.take p++[t]:=by
 rw [List.take_add_one,h];rfl
theorem Ztb (n lc:Nat) (w:World):Calls Tryz.prog 183 #[.slice none n lc] w fun e w'=>e=.returned (.slice none 0 0)/\w'=w:=by
 have r:∀ W:World,(binOp .eql 58 (.slice none n lc) (.slice none 0 0)).run Tryz.prog W=.ok (.bool true) W:=fun W=>by
  have:=Lib.run_eql_slice_nil (P:=Tryz.prog) W 58 60 none n lc 0 0 Tryz.underlying58
  simpa using this
 go_enter Tryz.func183,Tryz.ntmps183
 go_wp2_with fail
 go_ret
 exact ⟨rfl,rfl⟩
end
section
open Go.RowKit Go.Shelf Go.WideShapes
theorem Zst {w w1:World} {A A':Array Value} (a:Below ((w.alloc (.cells A 60)).alloc (.cells A' 60)).heap.size ((w.alloc (.cells A 60)).alloc (.cells A' 60)) w1) :
  (∀ i,w1.frozen? ⟨w.heap.size,i,none⟩=false)/\(∀ i,w1.frozen? ⟨w.heap.size+1,i,none⟩=false):=by
 simp only [World.size_alloc] at a
 have h1:((w.alloc (.cells A 60)).alloc (.cells A' 60)).heap[w.heap.size]?=some (.cells A 60 (0,0)):=by
  rw [Below.heap_alloc _ _ _ (by simp)];exact World.alloc_heap_new _ _
 have h2:((w.alloc (.cells A 60)).alloc (.cells A' 60)).heap[w.heap.size+1]?=some (.cells A' 60 (0,0)):=by
  have:=World.alloc_heap_new (w.alloc (.cells A 60)) (.cells A' 60)
  rwa [World.size_alloc] at this
 refine ⟨fun i=>?_,fun i=>?_⟩
 ·rw [a.frozen (p:=⟨w.heap.size,i,none⟩) (by show w.heap.size<_;omega)]
  unfold World.frozen?
  simp [h1]
 ·rw [a.frozen (p:=⟨w.heap.size+1,i,none⟩) (by show w.heap.size+1<_;omega)]
  unfold World.frozen?
  rw [show (⟨w.heap.size+1,i,none⟩:Addr).block=w.heap.size+1 from rfl,h2]
  simp
end
