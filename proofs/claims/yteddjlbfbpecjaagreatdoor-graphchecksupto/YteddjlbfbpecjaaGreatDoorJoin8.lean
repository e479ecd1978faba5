/- A graph of nothing, made: what it holds. Names: what the library's own variables hold, and which texts are names. A graph that is there: whether it is, whether it has a thing, whether it is full. Whether a graph has a thing. -/
import Derived.Test.YteddjlbfbpecjaaGreatDoorJoin7
import Derived.Test.YteddjlbfbpecjaaGreatDoorJoin6
import Derived.Test.YteddjlbfbpecjaaGreatDoorJoin3
import Derived.Test.YteddjlbfbpecjaaGreatDoorJoin4
namespace Go.Proofs.YteddjlbfbpecjaaGreatDoor
open Go.RowKit Go.Shelf
set_option linter.unusedVariables false
set_option linter.unusedSimpArgs false
attribute [local go_sem] Oper.semAt_some
structure GP  where
 g:Nat
 n:Nat
 r:Nat
 f:Nat
 t:Nat
def GP.Ok (p:GP) (B:Nat):Prop:=B≤p.g∧B≤p.n∧B≤p.r∧B≤p.f∧B≤p.t∧p.g≠p.n∧p.g≠p.r∧p.g≠p.f∧p.g≠p.t∧p.n≠p.r∧p.n≠p.f∧p.n≠p.t∧p.r≠p.f∧p.r≠p.t∧p.f≠p.t
def GP.cells (p:GP) (nn nr:Int):Array Value:=#[.map (some p.n),.map (some p.r),.int .i64 nn,.int .i64 nr,.map (some p.f),.map (some p.t)]
def GP.val (p:GP):Value:=.pointer (some ⟨p.g,0,none⟩)
structure GS (w:World) (p:GP) (nn nr:Int) (N R F T:List (Int × Value)):Prop where
 obj:Rec w p.g (p.cells nn nr) 74
 n:MI w p.n N
 r:MI w p.r R
 f:MI w p.f F
 t:MI w p.t T
theorem GS.below {w w':World} {p:GP} {nn nr:Int} {N R F T:List (Int × Value)} (h:GS w p nn nr N R F T) (hb:Below w.heap.size w w'):GS w' p nn nr N R F T :=
 ⟨h.obj.below hb h.obj.lt,h.n.below hb (Nat.le_refl _),h.r.below hb (Nat.le_refl _),h.f.below hb (Nat.le_refl _),h.t.below hb (Nat.le_refl _)⟩
end Go.Proofs.YteddjlbfbpecjaaGreatDoor

namespace Go.Proofs.YteddjlbfbpecjaaGreatDoor
open Go.RowKit Go.Shelf
set_option linter.unusedVariables false
set_option linter.unusedSimpArgs false
structure Env (w:World):Prop where
 room:3≤w.heap.size
 tabs:Lib.Utf8Tabs (Tryz.laysValid_ren.g 3) (Tryz.laysValid_ren.g 4) w
theorem Env.keep {w w':World} (h:Env w) (hk:∀ k,k<3→w'.heap[k]?=w.heap[k]?) (hs:3≤w'.heap.size):Env w':=by
 have hc:∀ p:Addr,p.block<3→w'.cell? p=w.cell? p:=fun p hp=>World.cell?_of_block (hk _ hp)
 refine ⟨hs,⟨fun c hb=>?_,fun i hi=>⟨?_,?_⟩⟩⟩
 ·rw [hc _ (by show 0<3;decide)];exact h.tabs.1 c hb
 ·rw [hc _ (by show 1<3;decide)];exact (h.tabs.2 i hi).1
 ·rw [hc _ (by show 1<3;decide)];exact (h.tabs.2 i hi).2
theorem Env.below {w w':World} {B:Nat} (h:Env w) (hb:Below B w w') (hB:3≤B):Env w':=h.keep (fun k hk=>hb.block k (by omega)) (Nat.le_trans h.room hb.size)
theorem valid_any (s:ByteArray) (hs:s.size≤140737488355328) (w:World) (hE:Env w):Calls Tryz.prog 139 #[.string s] w fun e w'=>e=.returned (.bool (Lib.validD s.data.toList))∧Below w.heap.size w w' :=
 Any.utf8_ValidString Tryz.laysValid s w (by omega) hE.tabs
def nameOk (l:List UInt8):Bool:=decide (l.length≥1)&&decide (l.length≤64)&&Lib.validD l&&!l.contains 0
theorem index_ge (l:List UInt8) (c:UInt8):-1≤Lib.indexByte l c:=by
 induction l with
 | nil=>simp [Lib.indexByte]
 | cons b l ih =>
  rw [Lib.indexByte]
  split
  ·omega
  ·split<;>omega
theorem index_neg (l:List UInt8) (c:UInt8):(Lib.indexByte l c<0)↔l.contains c=false:=by
 induction l with
 | nil=>simp [Lib.indexByte]
 | cons b l ih =>
  rw [Lib.indexByte,List.contains_cons]
  by_cases h:b=c
  ·subst h;simp
  ·have h1:(b==c)=false:=beq_eq_false_iff_ne.2 h
   have h2:(c==b)=false:=beq_eq_false_iff_ne.2 (fun e=>h e.symm)
   rw [h1,h2]
   simp only [Bool.false_eq_true,if_false,Bool.false_or]
   have:=index_ge l c
   rw [← ih]
   split
   ·rename_i e;simp only [beq_iff_eq] at e;omega
   ·rename_i e;simp only [beq_iff_eq] at e;omega
set_option maxHeartbeats 1000000 in
theorem name_any (s:ByteArray) (hs:s.size≤140737488355328) (w:World) (hE:Env w):Calls Tryz.prog 90 #[.string s] w fun e w'=>e=.returned (.bool (nameOk s.data.toList))∧Below w.heap.size w w':=by
 have HV:Hid (nameOk s.data.toList=(decide (s.size≥1)&&decide (s.size≤64)&&Lib.validD s.data.toList&&!s.data.toList.contains 0)):=by
  show _=_
  unfold nameOk
  simp
 have HX:=hidE (index_neg s.data.toList 0)
 have HU:=hidE (valid_any s hs w hE)
 have HI:=hidE (fun w=>Tryz.strings_IndexByte s 0 w)
 generalize nameOk s.data.toList=v at HV ⊢
 generalize Lib.validD s.data.toList=u at HV HU
 have HI2:Hid (∀ w,Calls Tryz.prog 140 #[.string s,.int .u8 0] w fun e w'=>e=.returned (.int .i64 (Lib.indexByte s.data.toList 0))∧w'=w):=HI.out
 generalize Lib.indexByte s.data.toList 0=i at HX HI2
 generalize s.data.toList.contains 0=z at HV HX
 clear HI
 go_enter Tryz.func90,Tryz.ntmps90
 by_cases h0:s.size=0
 ·have e0:s.toList.isEmpty=true:=by
   rw [ByteArray.toList_eq,List.isEmpty_iff]
   exact List.eq_nil_of_length_eq_zero (by simpa using h0)
  have HE:Hid (v=false):=by show _=_;rw [HV.out,h0];simp
  clear h0
  go_wp2_with fail
  go_ret
  rw [HE.out]
  exact ⟨rfl,Below.refl _ _⟩
 ·have e0:s.toList.isEmpty=false:=by
   rw [ByteArray.toList_eq,Bool.eq_false_iff,ne_eq,List.isEmpty_iff]
   intro e
   have:=congrArg List.length e
   exact h0 (by simpa using this)
  by_cases h1:s.size≤64
  ·have h1':(s.size:Int)≤64:=by omega
   go_wp2_with fail
   refine HU.out.mono ?_
   rintro e w1 ⟨rfl,hb⟩
   have HB:=hidE hb
   clear hb
   cases u with
   | true =>
    have HE:Hid (v=!z):=by
     show _=_
     rw [HV.out,decide_eq_true h1,decide_eq_true (by omega:s.size≥1)];simp
    go_wp2_with fail
    refine (HI2.out _).mono ?_
    rintro e w2 ⟨rfl,rfl⟩
    by_cases hi:i<0
    ·have hz:z=false:=HX.out.1 hi
     go_wp2_with fail
     go_ret
     rw [HE.out,hz]
     exact ⟨rfl,HB.out⟩
    ·have hz:z=true:=by
      cases hz:z with
      | true=>rfl
      | false=>exact absurd (HX.out.2 hz) hi
     go_wp2_with fail
     go_ret
     rw [HE.out,hz]
     refine ⟨?_,HB.out⟩
     show Ending.returned (.bool (decide (i<0)))=_
     rw [decide_eq_false (by omega)]
     rfl
   | false =>
    have HE:Hid (v=false):=by show _=_;rw [HV.out];simp
    go_wp2_with fail
    go_ret
    rw [HE.out]
    exact ⟨rfl,HB.out⟩
  ·have h1':¬ (s.size:Int)≤64:=by omega
   have HE:Hid (v=false):=by show _=_;rw [HV.out,decide_eq_false h1];simp
   go_wp2_with fail
   go_ret
   rw [HE.out]
   exact ⟨rfl,Below.refl _ _⟩
end Go.Proofs.YteddjlbfbpecjaaGreatDoor

namespace Go.Proofs.YteddjlbfbpecjaaGreatDoor
open Go.RowKit Go.Shelf
set_option maxHeartbeats 4000000
set_option maxRecDepth 100000
set_option linter.unusedVariables false
set_option linter.unusedSimpArgs false
attribute [local go_sem] Oper.semAt_some
theorem equal_somem (w:World) (d n:Nat):(Op.equalIn (d+1) 68 (.map (some n)) (.map none)).run Tryz.prog w=.ok false w:=by
 simp [Op.equalIn,run_underlying Tryz.underlying68]
theorem neq_somem (w:World) (n:Nat):(binOp .neq 68 (.map (some n)) (.map none)).run Tryz.prog w=.ok (.bool true) w:=by
 have h:=equal_somem w 9999 n
 simp only [binOp]
 simp [Op.equal,Op.maxDepth,h]
theorem mi_open {w:World} {b:Nat} {es:List (Int × Value)} (h:MI w b es):∃ ar c,w.heap[b]?=some (.map ar c)∧ar.size=es.length:=by
 obtain ⟨ar,c,h1,h2,h3⟩:=h
 refine ⟨ar,c,h1,?_⟩
 have:=congrArg List.length h2
 simpa using this
section
variable {w:World} {p:GP} {nn nr:Int} {N R F T:List (Int × Value)}
theorem GS.c0 (h:GS w p nn nr N R F T):w.cell? ⟨p.g,0,none⟩=some (.map (some p.n)):=h.obj.cell 0 rfl
theorem GS.c1 (h:GS w p nn nr N R F T):w.cell? ⟨p.g,1,none⟩=some (.map (some p.r)):=h.obj.cell 1 rfl
theorem GS.c2 (h:GS w p nn nr N R F T):w.cell? ⟨p.g,2,none⟩=some (.int .i64 nn):=h.obj.cell 2 rfl
theorem GS.c3 (h:GS w p nn nr N R F T):w.cell? ⟨p.g,3,none⟩=some (.int .i64 nr):=h.obj.cell 3 rfl
theorem GS.c4 (h:GS w p nn nr N R F T):w.cell? ⟨p.g,4,none⟩=some (.map (some p.f)):=h.obj.cell 4 rfl
theorem GS.c5 (h:GS w p nn nr N R F T):w.cell? ⟨p.g,5,none⟩=some (.map (some p.t)):=h.obj.cell 5 rfl
end
theorem there_yes {w:World} {p:GP} {nn nr:Int} {N R F T:List (Int × Value)} (h:GS w p nn nr N R F T):Calls Tryz.prog 18 #[p.val] w fun e w'=>e=.returned (.bool true)∧w'=w:=by
 have c0:=h.c0
 have hnm:=neq_somem w p.n
 clear h
 unfold GP.val
 go_enter Tryz.func18,Tryz.ntmps18
 go_wp2_with fail
 go_ret
 exact ⟨rfl,rfl⟩
theorem size_yes {w:World} {p:GP} {nn nr:Int} {N R F T:List (Int × Value)} (h:GS w p nn nr N R F T) (hs:N.length+R.length≤2000000):Calls Tryz.prog 60 #[p.val] w fun e w'=>e=.returned (.int .i64 ((N.length:Int)+(R.length:Int)))∧Below w.heap.size w w':=by
 have c0:=h.c0
 have c1:=h.c1
 obtain ⟨ar,ca,m0,e0⟩:=mi_open h.n
 obtain ⟨br,cb,m1,e1⟩:=mi_open h.r
 rw [← e0,← e1] at hs ⊢
 have hw:IntKind.i64.wrap ((ar.size:Int)+(br.size:Int))=(ar.size:Int)+(br.size:Int):=by rw [IntKind.wrap_i64];omega
 have l0:∀ ty,(Builtin.len_ #[68] ty #[.map (some p.n)]).run Tryz.prog w.drew=.ok (goInt ar.size) w.drew:=fun ty=>run_len_map _ 68 ty p.n ar ca Tryz.underlying68 m0
 have l1:∀ ty,(Builtin.len_ #[69] ty #[.map (some p.r)]).run Tryz.prog w.drew=.ok (goInt br.size) w.drew:=fun ty=>run_len_map _ 69 ty p.r br cb Tryz.underlying69 m1
 clear h e0 e1
 unfold GP.val
 go_enter Tryz.func60,Tryz.ntmps60
 go_wp2_with fail
 go_region_with fail
 all_goals
  go_wp2_with fail
  go_ret
  refine ⟨?_,?_⟩
  ·first | rfl | (simp [hw];done) | (simp [hw];rfl)
  ·exact ⟨rfl,rfl,rfl,Nat.le_refl _,fun _ _=>rfl⟩
theorem full_not {w:World} {p:GP} {nn nr:Int} {N R F T:List (Int × Value)} (h:GS w p nn nr N R F T) (hs:N.length+R.length<65536) (k:Int) (hk:k<4611686018427387904):Calls Tryz.prog 87 #[p.val,.int .i64 k] w fun e w'=>e=.returned (.bool false)∧Below w.heap.size w w':=by
 have HC:=hidE (size_yes h (by omega))
 have g1:¬ ((N.length:Int)+(R.length:Int)≥65536):=by omega
 have g2:¬ (k≥4611686018427387904):=by omega
 clear h
 unfold GP.val at HC ⊢
 go_enter Tryz.func87,Tryz.ntmps87
 go_wp2_with fail
 refine HC.out.mono ?_
 rintro e w1 ⟨rfl,hb⟩
 have HB:=hidE hb
 clear hb
 go_wp2_with fail
 go_ret
 exact ⟨by simp;omega,HB.out⟩
def hasB (k:Int) (es:List (Int × Value)):Bool:=es.any fun q=>q.1==k
theorem mi_look {t e:TypeId} {z:Value} (ht:Tryz.prog.underlying t=some (.map 2 e)) (hz:∀ w,(zeroValue e).run Tryz.prog w=.ok z w) {w:World} {b:Nat} {es:List (Int × Value)} (h:MI w b es) (k:Int) (hk:I64 k) (hu:∀ p ∈ es,∀ q ∈ es,p.1=q.1→p.2=q.2) :
  ∃ v,((∃ q ∈ es,q.1=k∧v=q.2)∨v=z)∧(Instr.lookup t (.map (some b)) (.int .i64 k) true).run Tryz.prog w=.ok (.tuple #[v,.bool (hasB k es)]) w:=by
 by_cases hh:∃ q ∈ es,q.1=k
 ·obtain ⟨q,hq,rfl⟩:=hh
  have hb:hasB q.1 es=true:=List.any_eq_true.2 ⟨q,hq,by simp⟩
  refine ⟨q.2,Or.inl ⟨q,hq,rfl,rfl⟩,?_⟩
  rw [hb]
  exact (mi_hit (z:=z) ht h q.1 q.2 hk hq (fun p hp e=>hu p hp q hq e)).1
 ·have hb:hasB k es=false:=by
   rw [hasB,List.any_eq_false]
   intro q hq
   simp only [beq_iff_eq]
   exact fun e=>hh ⟨q,hq,e⟩
  refine ⟨z,Or.inr rfl,?_⟩
  rw [hb]
  exact (mi_miss ht hz h k hk (fun p hp e=>hh ⟨p,hp,e⟩)).1
end Go.Proofs.YteddjlbfbpecjaaGreatDoor

namespace Go.Proofs.YteddjlbfbpecjaaGreatDoor
open Go.RowKit Go.Shelf
set_option linter.unusedVariables false
set_option linter.unusedSimpArgs false
attribute [local go_sem] Oper.semAt_some
def NodeV (v:Value):Prop:=∃ i a n c a' n' c',v=.agg #[.int .i64 i,.slice a n c,.slice a' n' c']
def RelV (v:Value):Prop:=∃ i f t s a n c,v=.agg #[.int .i64 i,.int .i64 f,.int .i64 t,.string s,.slice a n c]
def Uniq (es:List (Int × Value)):Prop:=∀ p ∈ es,∀ q ∈ es,p.1=q.1→p.2=q.2
theorem Tryz.underlying68'  : Tryz.prog.underlying 68=some (.map 2 47):=by kernel_rfl
theorem Tryz.underlying69'  : Tryz.prog.underlying 69=some (.map 2 49):=by kernel_rfl
theorem zero47 (w:World):(zeroValue 47).run Tryz.prog w=.ok (.agg #[.int .i64 0,.slice none 0 0,.slice none 0 0]) w:=by kernel_rfl
theorem zero49 (w:World):(zeroValue 49).run Tryz.prog w=.ok (.agg #[.int .i64 0,.int .i64 0,.int .i64 0,.string ⟨#[]⟩,.slice none 0 0]) w:=by kernel_rfl
theorem node_look {w:World} {b:Nat} {es:List (Int × Value)} (h:MI w b es) (hu:Uniq es) (hv:∀ q ∈ es,NodeV q.2) (k:Int) (hk:I64 k) :
  ∃ v,NodeV v∧(Instr.lookup 68 (.map (some b)) (.int .i64 k) true).run Tryz.prog w=.ok (.tuple #[v,.bool (hasB k es)]) w:=by
 obtain ⟨v,h1,h2⟩:=mi_look Tryz.underlying68' zero47 h k hk hu
 refine ⟨v,?_,h2⟩
 rcases h1 with ⟨q,hq,_,rfl⟩ | rfl
 ·exact hv q hq
 ·exact ⟨0,none,0,0,none,0,0,rfl⟩
theorem rel_look {w:World} {b:Nat} {es:List (Int × Value)} (h:MI w b es) (hu:Uniq es) (hv:∀ q ∈ es,RelV q.2) (k:Int) (hk:I64 k) :
  ∃ v,RelV v∧(Instr.lookup 69 (.map (some b)) (.int .i64 k) true).run Tryz.prog w=.ok (.tuple #[v,.bool (hasB k es)]) w:=by
 obtain ⟨v,h1,h2⟩:=mi_look Tryz.underlying69' zero49 h k hk hu
 refine ⟨v,?_,h2⟩
 rcases h1 with ⟨q,hq,_,rfl⟩ | rfl
 ·exact hv q hq
 ·exact ⟨0,0,0,⟨#[]⟩,none,0,0,rfl⟩
set_option maxRecDepth 100000 in
set_option maxHeartbeats 4000000 in
theorem has_any {w:World} {p:GP} {nn nr:Int} {N R F T:List (Int × Value)} (h:GS w p nn nr N R F T) (hN:Uniq N) (hR:Uniq R) (hn:∀ q ∈ N,NodeV q.2) (hr:∀ q ∈ R,RelV q.2) (rel:Bool) (k:Int) (hk:I64 k) :
  Calls Tryz.prog 91 #[p.val,.bool rel,.int .i64 k] w fun e w'=>e=.returned (.bool (rel&&hasB k R||!rel&&hasB k N))∧Below w.heap.size w w':=by
 have HG:=hidE h
 obtain ⟨v,⟨i,a,n,c,a',n',c',rfl⟩,l1⟩:=node_look h.n hN hn k hk
 have c0:=h.c0
 generalize hasB k N=hb at l1 ⊢
 clear hN hn
 unfold GP.val
 have HRl:Hid (∀ W,GS W p nn nr N R F T→∃ v,RelV v∧(Instr.lookup 69 (.map (some p.r)) (.int .i64 k) true).run Tryz.prog W=.ok (.tuple #[v,.bool (hasB k R)]) W):=fun W hW=>rel_look hW.r hR hr k hk
 generalize hasB k R=hc at HRl ⊢
 clear h hR hr hk
 go_enter Tryz.func91,Tryz.ntmps91
 go_upto_region 2 with fail
 generalize hW1:World.alloc _ _=W1
 have HB1:Hid (Below w.heap.size w W1):=by rw [← hW1];exact (Below.refl _ _).alloc (Nat.le_refl _) _
 have HG1:=hidE (HG.out.below HB1.out)
 clear hW1 c0 l1
 obtain ⟨v,⟨i2,f2,t2,s2,a2,n2,e2,rfl⟩,l2⟩:=HRl.out W1 HG1.out
 have c1:=HG1.out.c1
 go_upto_region 3 with fail
 generalize hW2:World.alloc _ _=W2
 have HB2:Hid (Below w.heap.size w W2):=by rw [← hW2];exact HB1.out.alloc HB1.out.size _
 clear hW2 c1 l2
 cases rel with
 | true =>
  cases hc with
  | true=>go_wp2_with fail;go_ret;exact ⟨rfl,HB2.out⟩
  | false=>go_wp2_with fail;go_ret;exact ⟨rfl,HB2.out⟩
 | false=>go_wp2_with fail;go_ret;exact ⟨by simp,HB2.out⟩
end Go.Proofs.YteddjlbfbpecjaaGreatDoor

