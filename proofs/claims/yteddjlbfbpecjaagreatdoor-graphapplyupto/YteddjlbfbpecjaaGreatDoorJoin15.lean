/- A copy lies in memory of its own: what is said of it, and small things about blocks. -/
import Derived.Test.YteddjlbfbpecjaaGreatDoorJoin12
import Derived.Test.YteddjlbfbpecjaaGreatDoorJoin13
import Derived.Laws.IdiomCopy
import Derived.Laws.MakeOwn
import Derived.Deep.QuietTactic
import Derived.BigQuiet
namespace Go.Proofs.YteddjlbfbpecjaaGreatDoor
section
open Go.RowKit Go.Shelf
set_option linter.all false
def six (w:World) (b o:Nat) (v0 v1 v2 v3 v4 v5:Value):World:=w.setCells b o [v0,v1,v2,v3,v4,v5]
theorem Zkb {w:World} {b o:Nat} {v0 v1 v2 v3 v4 v5:Value} {b' o':Nat} (h:b'=b→o'<o∨o+6≤o'):(six w b o v0 v1 v2 v3 v4 v5).cell? ⟨b',o',none⟩=w.cell? ⟨b',o',none⟩ :=
 World.cell?_setCells_out b _ o w ⟨b',o',none⟩ (fun h1 _=>by have:=h h1;simpa using this)
theorem Zyv {w:World} {b o:Nat} {v0 v1 v2 v3 v4 v5:Value} (h:∀ j,j<6→(w.cell? ⟨b,o+j,none⟩).isSome=true) :
  (six w b o v0 v1 v2 v3 v4 v5).cell? ⟨b,o,none⟩=some v0∧(six w b o v0 v1 v2 v3 v4 v5).cell? ⟨b,o+1,none⟩=some v1∧(six w b o v0 v1 v2 v3 v4 v5).cell? ⟨b,o+2,none⟩=some v2∧(six w b o v0 v1 v2 v3 v4 v5).cell? ⟨b,o+3,none⟩=some v3 ∧
   (six w b o v0 v1 v2 v3 v4 v5).cell? ⟨b,o+4,none⟩=some v4∧(six w b o v0 v1 v2 v3 v4 v5).cell? ⟨b,o+5,none⟩=some v5:=by
 have key:=World.cell?_setCells_in b [v0,v1,v2,v3,v4,v5] o w (by simpa using h)
 exact ⟨key 0 (by simp),key 1 (by simp),key 2 (by simp),key 3 (by simp),key 4 (by simp),key 5 (by simp)⟩
theorem Zlv {B:Nat} {w w1:World} (h:Below B w w1) {b o:Nat} (hb:B≤b) (v0 v1 v2 v3 v4 v5:Value):Below B w (six w1 b o v0 v1 v2 v3 v4 v5) :=
 (((((h.setCell (p:=⟨b,o,none⟩) hb v0).setCell (p:=⟨b,o+1,none⟩) hb v1).setCell (p:=⟨b,o+1+1,none⟩) hb v2).setCell (p:=⟨b,o+1+1+1,none⟩) hb v3).setCell (p:=⟨b,o+1+1+1+1,none⟩) hb v4).setCell (p:=⟨b,o+1+1+1+1+1,none⟩) hb v5
theorem Zkc {w:World} {b o:Nat} {v0 v1 v2 v3 v4 v5:Value}:(six w b o v0 v1 v2 v3 v4 v5).heap.size=w.heap.size:=by simp [six,World.setCells]
end
section
open Go.RowKit Go.Shelf
set_option linter.all false
mutual
def Zj6  : Zk→Prop
 | .mk k b n s ks ts=>s.size≤140737488355328∧ks.length≤140737488355328∧ts.length≤140737488355328∧(∀ x ∈ ks,x.size≤140737488355328)∧SaneL ts
def SaneL  : List Zk→Prop
 | []=>True
 | t::ts=>Zj6 t∧SaneL ts
end
theorem SaneL.mem  : ∀ {ts:List Zk} {t:Zk},SaneL ts→t ∈ ts→Zj6 t
 | u::us,t,h,hm=>by
  simp only [SaneL] at h
  rcases List.mem_cons.1 hm with rfl | hm
  ·exact h.1
  ·exact SaneL.mem h.2 hm
mutual
def Zk.total  : Zk→Int
 | .mk k b n s ks ts=>1+s.size+ks.length+Zx ks+Zk.totalL ts
def Zk.totalL  : List Zk→Int
 | []=>0
 | t::ts=>t.total+Zk.totalL ts
end
end
section
open Go.RowKit Go.Shelf Go.WideShapes
set_option linter.all false
theorem Tryz.info60  : (Tryz.prog.info? 60).map (fun i=>(i.zero,i.size,i.bytes))=some (some (.agg #[.int .i64 0,.bool false,.int .i64 0,.string ⟨#[]⟩,.slice none 0 0,.slice none 0 0]),6,88):=by kernel_rfl
mutual
theorem Zly  : ∀ (T:Zk),1≤T.total
 | .mk k b n s ks ts=>by
  have:=totalL_len ts
  have:=Jt ks
  simp only [Zk.total];omega
theorem totalL_len  : ∀ (l:List Zk),(l.length:Int)≤Zk.totalL l
 | []=>by simp [Zk.totalL]
 | t::ts=>by
  have h:=Zly t
  have g:=totalL_len ts
  simp only [Zk.totalL,List.length_cons];omega
end
theorem Zgh  : ∀ {ts:List Zk} {t:Zk},t ∈ ts→t.total≤Zk.totalL ts
 | u::us,t,h=>by
  have h1:=totalL_len us
  have h2:=Zly u
  rcases List.mem_cons.1 h with rfl | h
  ·simp only [Zk.totalL];omega
  ·have:=Zgh h;simp only [Zk.totalL];omega
def Zyw (w:World) (g n:Nat):Prop:=∀ o,o<n*6→(w.cell? ⟨g,o,none⟩).isSome=true∧w.frozen? ⟨g,o,none⟩=false
theorem Zyw.below {w w':World} {g n:Nat} (h:Zyw w g n) (hb:Below w.heap.size w w') (hg:g<w.heap.size):Zyw w' g n:=fun o ho=>by
 rw [hb.cell (p:=⟨g,o,none⟩) hg,hb.frozen (p:=⟨g,o,none⟩) hg];exact h o ho
theorem Jb0 (w:World) (b o:Nat) (v0 v1 v2 v3 v4 v5:Value):(((((w.setCell ⟨b,o,none⟩ v0).setCell ⟨b,o+1,none⟩ v1).setCell ⟨b,o+2,none⟩ v2).setCell ⟨b,o+3,none⟩ v3).setCell ⟨b,o+4,none⟩ v4).setCell ⟨b,o+5,none⟩ v5=six w b o v0 v1 v2 v3 v4 v5:=rfl
theorem Zdb {w:World} {b o:Nat} {v0 v1 v2 v3 v4 v5:Value} (a:Addr):(six w b o v0 v1 v2 v3 v4 v5).frozen? a=w.frozen? a:=by
 simp only [six,World.setCells,World.frozen?_setCell]
theorem Zyw.six {w:World} {g n o:Nat} (h:Zyw w g n) (ho:o+6≤n*6) (v0 v1 v2 v3 v4 v5:Value):Zyw (six w g o v0 v1 v2 v3 v4 v5) g n:=fun p hp=>by
 rw [Zdb]
 refine ⟨?_,(h p hp).2⟩
 by_cases hin:p<o∨o+6≤p
 ·rw [Zkb (fun _=>hin)];exact (h p hp).1
 ·obtain ⟨q,rfl⟩:∃ q,p=o+q:=⟨p - o,by omega⟩
  obtain ⟨c0,c1,c2,c3,c4,c5⟩:=Zyv (w:=w) (b:=g) (o:=o) (v0:=v0) (v1:=v1) (v2:=v2) (v3:=v3) (v4:=v4) (v5:=v5) (fun j hj=>(h (o+j) (by omega)).1)
  match q,(show q<6 by omega) with
  | 0,_=>rw [Nat.add_zero,c0];rfl
  | 1,_=>rw [c1];rfl
  | 2,_=>rw [c2];rfl
  | 3,_=>rw [c3];rfl
  | 4,_=>rw [c4];rfl
  | 5,_=>rw [c5];rfl
theorem Zhz {ts:List Zk} {p:Nat} {t:Zk} (h:ts[p]?=some t):ts.take (p+1)=ts.take p++[t]:=by
 rw [List.take_add_one,h];rfl
theorem Zqw (n lc:Nat) (w:World):Calls Tryz.prog 183 #[.slice none n lc] w fun e w'=>e=.returned (.slice none 0 0)∧w'=w:=by
 have heq:∀ W:World,(binOp .eql 58 (.slice none n lc) (.slice none 0 0)).run Tryz.prog W=.ok (.bool true) W:=fun W=>by
  have:=Lib.run_eql_slice_nil (P:=Tryz.prog) W 58 60 none n lc 0 0 Tryz.underlying58
  simpa using this
 go_enter Tryz.func183,Tryz.ntmps183
 go_wp2_with fail
 go_ret
 exact ⟨rfl,rfl⟩
end
section
open Go.RowKit Go.Shelf Go.WideShapes
set_option linter.all false
theorem Zqc {w w1:World} {A A':Array Value} (hb:Below ((w.alloc (.cells A 60)).alloc (.cells A' 60)).heap.size ((w.alloc (.cells A 60)).alloc (.cells A' 60)) w1) :
  (∀ i,w1.frozen? ⟨w.heap.size,i,none⟩=false)∧(∀ i,w1.frozen? ⟨w.heap.size+1,i,none⟩=false):=by
 simp only [World.size_alloc] at hb
 have h1:((w.alloc (.cells A 60)).alloc (.cells A' 60)).heap[w.heap.size]?=some (.cells A 60 (0,0)):=by
  rw [Below.heap_alloc _ _ _ (by simp)];exact World.alloc_heap_new _ _
 have h2:((w.alloc (.cells A 60)).alloc (.cells A' 60)).heap[w.heap.size+1]?=some (.cells A' 60 (0,0)):=by
  have:=World.alloc_heap_new (w.alloc (.cells A 60)) (.cells A' 60)
  rwa [World.size_alloc] at this
 refine ⟨fun i=>?_,fun i=>?_⟩
 ·rw [hb.frozen (p:=⟨w.heap.size,i,none⟩) (by show w.heap.size<_;omega)]
  unfold World.frozen?
  simp [h1]
 ·rw [hb.frozen (p:=⟨w.heap.size+1,i,none⟩) (by show w.heap.size+1<_;omega)]
  unfold World.frozen?
  rw [show (⟨w.heap.size+1,i,none⟩:Addr).block=w.heap.size+1 from rfl,h2]
  simp
end
