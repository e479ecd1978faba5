/- StatsFit's own walk. Counts, and what is asked of them, handed in: where they lie. What is left of a function's body from a region on. Counts handed in: how long their names may be, too. -/
import Derived.Test.YthfilnflgahcjaaGreatDoorJoin24
import Derived.Shelf.Bits.Mul64
import Derived.Test.YthfilnflgahcjaaGreatDoorJoin4
import Derived.Test.YthfilnflgahcjaaGreatDoorJoin3
import Derived.OpenShut
import Derived.SizedLaws
import Derived.ProofKit
import Derived.SliceStrings
import Derived.Deep.Slices
namespace Go.Proofs.YthfilnflgahcjaaGreatDoor
open Go.RowKit Go.Shelf Go.Maps
set_option linter.all false
attribute [local go_sem] Oper.semAt_some
structure Jf9 (B:Nat) (w:World) (vl vt ve vk:Value) (s:Zak):Prop where
 hl:Zal 2 Za0 B w vl s.labels
 ht:Zal 2 Za0 B w vt s.types
 he:Zal 4 Zc7 B w ve s.ends
 hk:Zal 4 Zd3 B w vk s.keys
 ol:∀ x ∈ s.labels,okS x.1
 ot:∀ x ∈ s.types,okS x.1
 oe:∀ x ∈ s.ends,okE x
 ok:∀ x ∈ s.keys,okK x
 nl:s.labels.length<=1000000000000000000
 nt:s.types.length<=1000000000000000000
 ne:s.ends.length<=1000000000000000000
 nk:s.keys.length<=1000000000000000000
theorem Zc0.mono {B a:Nat} {w:World} {vl vt ve vk:Value} {s:Zak} (h:Zc0 B w vl vt ve vk s) (hB:B<=a):Zc0 a w vl vt ve vk s:=⟨h.hl.mono hB,h.ht.mono hB,h.he.mono hB,h.hk.mono hB,h.ol,h.ot,h.oe,h.ok,h.nl,h.nt,h.ne,h.nk⟩
theorem Jf9.lies {B:Nat} {w:World} {vl vt ve vk:Value} {s:Zak} (h:Jf9 B w vl vt ve vk s) (b:Ji7 s=true):Zc0 B w vl vt ve vk s:=by
 have b:=of_decide_eq_true b
 exact ⟨h.hl,h.ht,h.he,h.hk,h.ol,h.ot,h.oe,h.ok,by omega,by omega,by omega,by omega⟩
end Go.Proofs.YthfilnflgahcjaaGreatDoor

namespace Go.Proofs.YthfilnflgahcjaaGreatDoor
open Go.ChangeShapes Go.WideShapes Go.ChangeAt Go.RowKit Go.Shelf Go.Deep
set_option linter.all false
theorem Zyu:Tryz.prog.cellsOf 43=1:=by kernel_rfl
section
variable {H:Type} {enc:TypeId × Value->H} {W:World}
theorem Zb1 {e:TypeId} {d:DataW H}:∀ {l:List (DataW H)},d ∈ l->∀ {x:Nat},x ∈ d.weights Tryz.prog e->x ∈ DataW.weightsAll Tryz.prog e l
 | a::r,h,x,hx=>by
  rw [DataW.weightsAll,List.mem_append]
  rcases List.mem_cons.1 h with rfl | h
  ·exact .inl hx
  ·exact .inr (Zb1 h hx)
theorem Zg1 {fuel:Nat} {cs:List Value} {y:DataW H × List MemPlace} (h:DataW.trod enc Tryz.prog W 0 (fun _=>true) true fuel 2 cs=some y):∃ x:Int,cs=Zkk x/\W64 x:=by
 obtain ⟨z,e,_,wf⟩:=DataW.trod_int Tryz.underlying2 h
 exact ⟨z,e,wf⟩
end
end Go.Proofs.YthfilnflgahcjaaGreatDoor

namespace Go.Proofs.YthfilnflgahcjaaGreatDoor
open Go.RowKit Go.Shelf Go.Maps
set_option linter.all false
attribute [local go_sem] Oper.semAt_some
def Zqz (id:Nat):Code->Bool
 | .region i _ _=>i==id
 | .block _ c=>Zqz id c
 | .loop c=>Zqz id c
 | .scope c=>Zqz id c
 | .seq a _=>Zqz id a
 | _=>false
def Zum (id:Nat):Code->Code
 | .seq a b=>if Zqz id a=true then .seq a b else Zum id b
 | c=>c
def Zun (id:Nat) (c:Code):Code:=match Zum id c with
 | .seq a _=>a
 | c=>c
end Go.Proofs.YthfilnflgahcjaaGreatDoor

namespace Go.Proofs.YthfilnflgahcjaaGreatDoor
open Go.ChangeShapes Go.WideShapes Go.ChangeAt Go.RowKit Go.Shelf Go.Deep
set_option linter.all false
section
variable {H:Type} {enc:TypeId × Value->H} {W:World}
theorem Zx5 {fuel:Nat} {cs:List Value} {y:DataW H × List MemPlace} (h:DataW.trod enc Tryz.prog W 0 (fun _=>true) true fuel 9 cs=some y):∃ x:ByteArray,cs=Zap x/\okS x/\x.size ∈ y.1.weights Tryz.prog 9:=by
 obtain ⟨s,e2,b,a⟩:=DataW.trod_string Tryz.underlying9 h
 refine ⟨s,e2,a,?_⟩
 rw [b]
 simp [DataW.weights]
end
end Go.Proofs.YthfilnflgahcjaaGreatDoor

