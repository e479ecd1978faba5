/- The numbers that a map has, in order. Two statements of AddNode, in whatever order their operations are done. -/
import Derived.Test.YteddjlbfbpecjaaGreatDoorJoin5
import Derived.Shelf.SlIterI.Nil
import Derived.Test.YteddjlbfbpecjaaGreatDoorJoin2
import Derived.Test.YteddjlbfbpecjaaGreatDoorJoin1
namespace Go.Proofs.YteddjlbfbpecjaaGreatDoor
open Go.RowKit Go.Shelf Go.Maps Go.WideElems
set_option maxHeartbeats 1000000
set_option maxRecDepth 100000
set_option linter.unusedVariables false
set_option linter.unusedSimpArgs false
def RAny  : Value→Option (DataW Unit × List MemPlace):=fun _=>some (.nil,[])
theorem mi_fit {ar:Array MapEntry} {clock:Nat} {es:List (Int × Value)} (h:ar.toList.map (fun e=>(e.key,e.val))=es.map (fun p=>(Value.int .i64 p.1,p.2))) (hs:∀ p ∈ es,I64 p.1) (hS:MapKept.Stamped ar clock) (hm:es.length≤maxLen):Fit Tryz.prog 2 RAny ar clock:=by
 refine ⟨?_,hS,fun x hx=>?_⟩
 ·have:=congrArg List.length h
  simp at this
  omega
 ·obtain ⟨l,hl⟩:=mi_keys h hs x hx
  exact ⟨(l,.nil),by simp [rd,hl,RAny]⟩
theorem mi_rg {ar:Array MapEntry} {es:List (Int × Value)} (h:ar.toList.map (fun e=>(e.key,e.val))=es.map (fun p=>(Value.int .i64 p.1,p.2))) (hs:∀ p ∈ es,I64 p.1):ar.toList.map (rg Tryz.prog 2 RAny)=es.map fun p=>(Lit.int .i64 p.1,DataW.nil):=by
 have e1:ar.toList.map (rg Tryz.prog 2 RAny)=(ar.toList.map (fun e=>(e.key,e.val))).map (fun q=>rg Tryz.prog 2 RAny ⟨q.1,q.2,0⟩):=by
  rw [List.map_map]
  apply List.map_congr_left
  intro x _
  simp [rg,rd]
 rw [e1,h,List.map_map]
 apply List.map_congr_left
 intro p hp
 have:=keyOf_int_mk (P:=Tryz.prog) Tryz.underlying2 (hs p hp)
 simp [rg,rd,this,RAny]
theorem insert_perm (x:Lit × DataW Unit):∀ l,(DataW.insert x l).Perm (x::l)
 | []=>List.Perm.refl _
 | y::r=>by
  unfold DataW.insert
  split
  ·exact List.Perm.refl _
  ·exact ((insert_perm x r).cons y).trans (List.Perm.swap x y r)
theorem inserts_perm  : ∀ l:List (Lit × DataW Unit),(l.foldr DataW.insert []).Perm l
 | []=>List.Perm.refl _
 | x::r=>(insert_perm x _).trans ((inserts_perm r).cons x)
def dataI (es:List (Int × Value)):DataW Unit:=.map ((es.map fun p=>(Lit.int .i64 p.1,DataW.nil)).foldr DataW.insert [])
theorem dataI_keys (es:List (Int × Value)):(intKeys (dataI es)).Perm (es.map (·.1)):=by
 have h:=(inserts_perm (es.map fun p=>(Lit.int .i64 p.1,DataW.nil))).map (fun p=>Go.intOf p.1)
 simpa [dataI,intKeys,Function.comp_def,Go.intOf] using h
theorem dataI_size (es:List (Int × Value)):Maps.size (dataI es)=es.length:=by
 have h:=(inserts_perm (es.map fun p=>(Lit.int .i64 p.1,DataW.nil))).length_eq
 simpa [dataI,Maps.size] using h
theorem mi_owns {w:World} {b:Nat} {es:List (Int × Value)} (h:MI w b es) (hm:es.length≤maxLen):w.ownsMap Tryz.prog 2 RAny b es.length (dataI es):=by
 obtain ⟨ar,clock,h1,h2,h3,hS⟩:=h
 refine ⟨ar,clock,h1,mi_fit h2 h3 hS hm,?_,?_⟩
 ·have:=congrArg List.length h2
  simp at this
  omega
 ·rw [mi_rg h2 h3];rfl
theorem Tryz.sortsI (m:Nat):AnyZI.SortsIn Tryz.prog Tryz.sortedI_ren Fence.wide m :=
 ⟨fun blk off cap ss W hH hblk hsz=>callsIn_wide.2 (Tryz.slices_Sort_int blk off cap ss W hH hblk hsz),fun p cap W=>callsIn_wide.2 (Tryz.slices_Sort_int_none p cap W)⟩
def sortI (zs:List Int):List Int:=zs.mergeSort fun x y=>decide (x≤y)
theorem sortI_perm {xs ys:List Int} (h:xs.Perm ys):sortI xs=sortI ys:=by
 have tr:∀ a b c:Int,decide (a≤b)=true→decide (b≤c)=true→decide (a≤c)=true:=fun a b c h1 h2=>by simp at *;omega
 have tt:∀ a b:Int,(decide (a≤b)||decide (b≤a))=true:=fun a b=>by simp;omega
 refine List.Perm.eq_of_pairwise (le:=fun a b=>decide (a≤b)=true) ?_ (List.pairwise_mergeSort tr tt xs) (List.pairwise_mergeSort tr tt ys) (((List.mergeSort_perm _ _).trans h).trans (List.mergeSort_perm _ _).symm)
 intro a b _ _ h1 h2
 simp at h1 h2
 omega
theorem numbersN_any {w:World} {b:Nat} {es:List (Int × Value)} (h:MI w b es) (hm:es.length≤2000000):Calls Tryz.prog 111 #[.map (some b)] w fun e w'=>∃ v,e=.returned v∧w'.ownsRow w.heap.size 2 1 v es.length ((sortI (es.map (·.1))).map (Value.int .i64))∧Below w.heap.size w w':=by
 have hown:=mi_owns h (by unfold maxLen;omega)
 have hsz:=dataI_size es
 have hky:=dataI_keys es
 generalize dataI es=D0 at hown hsz hky
 refine (callsIn_wide (n:=6)).1 ?_
 have hbl:=hown.lt
 have hseq:SeqGives Fence.wide 2 Tryz.prog 188 #[.pointer (some ⟨w.heap.size,0,none⟩)] encZ (fun ss=>ss.Perm (intKeys D0)) (Maps.size D0) (w.alloc (.cells #[.map (some b)] 68)) :=
  AnyZI.keys_gives (ρ:=Tryz.keysN_ren) { Tryz.keysN with } Fence.wide _ trivial rfl (by omega) w.heap.size b es.length D0 _ (by simp) (by simp) (by
   obtain ⟨es',clock,hb,Ft,hs,hD⟩:=hown
   exact ⟨es',clock,(Below.heap_alloc _ _ b hbl).trans hb,Ft,hs,hD⟩)
 have cK:∀ mb W,CallsIn Fence.wide 5 Tryz.prog 155 #[.map mb] W fun e w'=>e=.returned (.func (.func 188) #[] #[.pointer (some ⟨W.heap.size,0,none⟩)])∧w'=W.alloc (.cells #[.map mb] 68):=fun mb W=>AnyZI.keys_in Tryz.keysN Fence.wide 5 trivial rfl mb W
 have cS:=AnyZI.sorted_in Tryz.sortedI Fence.wide 5 trivial trivial trivial trivial rfl (by omega) (Tryz.sortsI _) (enters_of Tryz.func127 (by kernel_rfl) rfl) 188 #[.pointer (some ⟨w.heap.size,0,none⟩)] trivial (enters_of Tryz.func188 (by kernel_rfl) rfl) _ _ (by rw [hsz];unfold maxLen;omega) (by rw [hsz];omega) _ hseq
 change CallsIn _ _ Tryz.prog 154 _ _ _ at cS
 have hfK:Fence.wide.fn 155:=trivial
 have hfS:Fence.wide.fn 154:=trivial
 refine callsIn_of_wp Tryz.func111 rfl trivial ?_ rfl
 simp only [Tryz.ntmps111,List.size_toArray,List.length_cons,List.length_nil,Nat.reduceAdd,Nat.reduceSub,Array.replicate_succ,Array.replicate_zero,List.push_toArray,List.append_toArray,List.nil_append,List.cons_append]
 gi_wp2_with (first
  | (gi_at_call 155;refine (cK _ _).mono ?_;rintro e w' ⟨rfl,rfl⟩)
  | (gi_at_call 154;refine cS.mono ?_;rintro e w' ⟨v,ss,rfl,hS,hrow,hnil,hb⟩))
 go_ret
 have hp:ss.Perm (es.map (·.1)):=hS.trans hky
 refine ⟨v,rfl,?_,((Below.refl _ w).alloc (Nat.le_refl _) _).trans (hb.mono (by simp))⟩
 have hl:ss.length=es.length:=by rw [hp.length_eq,List.length_map]
 rw [← sortI_perm hp,← hl]
 exact ownsRow_base_a hrow (by simp)
theorem numbersR_any {w:World} {b:Nat} {es:List (Int × Value)} (h:MI w b es) (hm:es.length≤2000000):Calls Tryz.prog 112 #[.map (some b)] w fun e w'=>∃ v,e=.returned v∧w'.ownsRow w.heap.size 2 1 v es.length ((sortI (es.map (·.1))).map (Value.int .i64))∧Below w.heap.size w w':=by
 have hown:=mi_owns h (by unfold maxLen;omega)
 have hsz:=dataI_size es
 have hky:=dataI_keys es
 generalize dataI es=D0 at hown hsz hky
 refine (callsIn_wide (n:=6)).1 ?_
 have hbl:=hown.lt
 have hseq:SeqGives Fence.wide 2 Tryz.prog 189 #[.pointer (some ⟨w.heap.size,0,none⟩)] encZ (fun ss=>ss.Perm (intKeys D0)) (Maps.size D0) (w.alloc (.cells #[.map (some b)] 69)) :=
  AnyZI.keys_gives (ρ:=Tryz.keysR_ren) { Tryz.keysR with } Fence.wide _ trivial rfl (by omega) w.heap.size b es.length D0 _ (by simp) (by simp) (by
   obtain ⟨es',clock,hb,Ft,hs,hD⟩:=hown
   exact ⟨es',clock,(Below.heap_alloc _ _ b hbl).trans hb,Ft,hs,hD⟩)
 have cK:∀ mb W,CallsIn Fence.wide 5 Tryz.prog 156 #[.map mb] W fun e w'=>e=.returned (.func (.func 189) #[] #[.pointer (some ⟨W.heap.size,0,none⟩)])∧w'=W.alloc (.cells #[.map mb] 69):=fun mb W=>AnyZI.keys_in Tryz.keysR Fence.wide 5 trivial rfl mb W
 have cS:=AnyZI.sorted_in Tryz.sortedI Fence.wide 5 trivial trivial trivial trivial rfl (by omega) (Tryz.sortsI _) (enters_of Tryz.func127 (by kernel_rfl) rfl) 189 #[.pointer (some ⟨w.heap.size,0,none⟩)] trivial (enters_of Tryz.func189 (by kernel_rfl) rfl) _ _ (by rw [hsz];unfold maxLen;omega) (by rw [hsz];omega) _ hseq
 change CallsIn _ _ Tryz.prog 154 _ _ _ at cS
 have hfK:Fence.wide.fn 156:=trivial
 have hfS:Fence.wide.fn 154:=trivial
 refine callsIn_of_wp Tryz.func112 rfl trivial ?_ rfl
 simp only [Tryz.ntmps112,List.size_toArray,List.length_cons,List.length_nil,Nat.reduceAdd,Nat.reduceSub,Array.replicate_succ,Array.replicate_zero,List.push_toArray,List.append_toArray,List.nil_append,List.cons_append]
 gi_wp2_with (first
  | (gi_at_call 156;refine (cK _ _).mono ?_;rintro e w' ⟨rfl,rfl⟩)
  | (gi_at_call 154;refine cS.mono ?_;rintro e w' ⟨v,ss,rfl,hS,hrow,hnil,hb⟩))
 go_ret
 have hp:ss.Perm (es.map (·.1)):=hS.trans hky
 refine ⟨v,rfl,?_,((Below.refl _ w).alloc (Nat.le_refl _) _).trans (hb.mono (by simp))⟩
 have hl:ss.length=es.length:=by rw [hp.length_eq,List.length_map]
 rw [← sortI_perm hp,← hl]
 exact ownsRow_base_a hrow (by simp)
end Go.Proofs.YteddjlbfbpecjaaGreatDoor

namespace Go.Proofs.YteddjlbfbpecjaaGreatDoor
open Go.RowKit Go.Shelf Go.WideShapes
set_option maxHeartbeats 4000000
set_option maxRecDepth 100000
set_option linter.unusedVariables false
set_option linter.unusedSimpArgs false
def KB (K:World→Value→Prop) (w:World) (v:Value):Prop:=∃ W,K W v∧Below W.heap.size W w
theorem KB.grow {K:World→Value→Prop} {w w':World} {v:Value} (h:KB K w v) (hb:Below w.heap.size w w'):KB K w' v:=by
 obtain ⟨W,h1,h2⟩:=h
 exact ⟨W,h1,h2.trans (hb.mono h2.size)⟩
noncomputable def RAN7  : Array Oper:=regionAt Tryz.f30 7
def LAN7  : List Sig:=[⟨33,.move (.tmp 0),31,none⟩,⟨34,.nilCheck (.tmp 33),0,none⟩,⟨35,.fieldAddr 74 (.tmp 34) 0,0,none⟩,⟨36,.fieldAddr 71 (.tmp 35) 2,0,none⟩,⟨37,.load 2 (.tmp 36),2,none⟩,⟨38,.move (.tmp 2),45,none⟩,⟨39,.call { callee:=.value (.func 88),args:=#[.tmp 38],argTypes:=#[45] },45,none⟩,⟨40,.build 47 #[(0,.tmp 37),(2,.tmp 39)],47,none⟩,⟨8,.alloc 47,0,none⟩]
theorem hLAN7  : (sigsOf RAN7).take LAN7.length=LAN7.map some:=by kernel_rfl
def ancAN7 (i:Nat):List Nat:=nth [] [[],[0],[1],[2],[3],[],[5],[4,6],[],[0,1,2,3,4,5,6,7,8]] i
def factsAN7 (p:GP) (nn:Int) (pv:Value) (B0:Nat) (K:World→Value→Prop):List (Value→World→Prop) :=
 [eqv (.pointer (some ⟨p.g,0,none⟩)),eqv (.pointer (some ⟨p.g,0,none⟩)),eqv (.pointer (some ⟨p.g,0,none⟩)),eqv (.pointer (some ⟨p.g,2,none⟩)),eqv (.int .i64 nn),eqv (pv),fun v w=>∃ a n c,v=.slice a n c∧KB K w v,fun v w=>∃ a n c,v=.agg #[.int .i64 nn,.slice none 0 0,.slice a n c]∧KB K w (.slice a n c),fun v w=>∃ X,v=.pointer (some ⟨X,0,none⟩)∧B0≤X∧Rec w X #[.int .i64 0,.slice none 0 0,.slice none 0 0] 47]
structure BaseAN7 (p:GP) (nn:Int) (pv:Value) (B0:Nat) (K:World→Value→Prop) (c:Act):Prop where
 t0:c.eval (.tmp 0)=.pointer (some ⟨p.g,0,none⟩)
 t2:c.eval (.tmp 2)=pv
structure WorldAN7 (p:GP) (nn:Int) (pv:Value) (B0:Nat) (K:World→Value→Prop) (w:World):Prop where
 c2:w.cell? ⟨p.g,2,none⟩=some (.int .i64 nn)
 b0:B0≤w.heap.size
 k6:Calls Tryz.prog 88 #[pv] w fun e w'=>∃ a n c,e=.returned (.slice a n c)∧K w' (.slice a n c)∧Below w.heap.size w w'
theorem oAN7_6 (p:GP) (nn:Int) (pv:Value) (B0:Nat) (K:World→Value→Prop) (Q:Exit→Act→World→Prop) (c:Act) (w:World) (hb:BaseAN7 p nn pv B0 K c) (hW:WorldAN7 p nn pv B0 K w) (hF:∀ q0 ∈ ancAN7 6,factsAt (factsAN7 p nn pv B0 K) q0 (val RAN7 c q0) w) :
  Does Tryz.prog RAN7 Q (factsAt (factsAN7 p nn pv B0 K)) 6 c w:=by
 have ho:RAN7[6]?=some (⟨some 39,.call { callee:=.value (.func 88),args:=#[.tmp 38],argTypes:=#[45] },45, "edit.go:22",#[⟨5,.data⟩],none⟩:Oper):=by kernel_rfl
 have e38:c.eval (.tmp 38)=pv:=fact_eq (by kernel_rfl) rfl (hF 5 (by decide))
 have hw:Region.wanted (⟨some 39,.call { callee:=.value (.func 88),args:=#[.tmp 38],argTypes:=#[45] },45, "edit.go:22",#[⟨5,.data⟩],none⟩:Oper) (yielded RAN7 c.tmps)=true:=want_none rfl
 have ec:=evc c
 have ef:=evf c
 refine does_call ho hw (f:=88) (args:=#[pv]) ?_ (hW.k6.mono fun e w' ⟨a,n,c,h1,h2,h3⟩=>⟨_,h1,⟨a,n,c,rfl,w',h2,Below.refl _ _⟩,h3⟩)
 generalize c.eval=ρ at *
 clear hF hb hW hw ho
 go_simp
theorem oAN7_7 (p:GP) (nn:Int) (pv:Value) (B0:Nat) (K:World→Value→Prop) (Q:Exit→Act→World→Prop) (c:Act) (w:World) (hb:BaseAN7 p nn pv B0 K c) (hW:WorldAN7 p nn pv B0 K w) (hF:∀ q0 ∈ ancAN7 7,factsAt (factsAN7 p nn pv B0 K) q0 (val RAN7 c q0) w) :
  Does Tryz.prog RAN7 Q (factsAt (factsAN7 p nn pv B0 K)) 7 c w:=by
 have ho:RAN7[7]?=some (⟨some 40,.build 47 #[(0,.tmp 37),(2,.tmp 39)],47, "edit.go:22",#[⟨4,.data⟩,⟨6,.data⟩],none⟩:Oper):=by kernel_rfl
 have e37:c.eval (.tmp 37)=.int .i64 nn:=fact_eq (by kernel_rfl) rfl (hF 4 (by decide))
 have f39:(fun v w=>∃ a n c,v=.slice a n c∧KB K w v) (c.eval (.tmp 39)) w:=fact_at (by kernel_rfl) rfl (hF 6 (by decide))
 have hw:Region.wanted (⟨some 40,.build 47 #[(0,.tmp 37),(2,.tmp 39)],47, "edit.go:22",#[⟨4,.data⟩,⟨6,.data⟩],none⟩:Oper) (yielded RAN7 c.tmps)=true:=want_none rfl
 have ec:=evc c
 have ef:=evf c
 obtain ⟨a,n,cc,e39,hk⟩:=f39
 rw [e39] at hk
 refine does_value ho hw (v:=.agg #[.int .i64 nn,.slice none 0 0,.slice a n cc]) ?_ ⟨a,n,cc,rfl,hk⟩ (Below.refl _ _)
 generalize c.eval=ρ at *
 clear hF hb hW hw ho
 go_simp
theorem oAN7_8 (p:GP) (nn:Int) (pv:Value) (B0:Nat) (K:World→Value→Prop) (Q:Exit→Act→World→Prop) (c:Act) (w:World) (hb:BaseAN7 p nn pv B0 K c) (hW:WorldAN7 p nn pv B0 K w) (hF:∀ q0 ∈ ancAN7 8,factsAt (factsAN7 p nn pv B0 K) q0 (val RAN7 c q0) w) :
  Does Tryz.prog RAN7 Q (factsAt (factsAN7 p nn pv B0 K)) 8 c w:=by
 have ho:RAN7[8]?=some (⟨some 8,.alloc 47,0, "edit.go:22",#[],none⟩:Oper):=by kernel_rfl
 have hw:Region.wanted (⟨some 8,.alloc 47,0, "edit.go:22",#[],none⟩:Oper) (yielded RAN7 c.tmps)=true:=want_none rfl
 have ec:=evc c
 have ef:=evf c
 refine does_value ho hw (v:=.pointer (some ⟨w.heap.size,0,none⟩)) (w':=w.alloc (.cells #[.int .i64 0,.slice none 0 0,.slice none 0 0] 47)) ?_ ⟨w.heap.size,rfl,hW.b0,rec_new _ _ _⟩ ((Below.refl _ _).alloc (Nat.le_refl _) _)
 generalize c.eval=ρ at *
 clear hF hb hW hw ho
 go_simp
theorem stableAN7 (p:GP) (nn:Int) (pv:Value) (B0:Nat) (K:World→Value→Prop):∀ pr ∈ factsAN7 p nn pv B0 K,Stable pr:=by
 unfold factsAN7
 iterate 9 (first | refine List.forall_mem_cons.2 ⟨eqv_stable _,?_⟩ | refine List.forall_mem_cons.2 ⟨fun v w w' ⟨a,n,c,h,hk⟩ hb=>⟨a,n,c,h,hk.grow hb⟩,?_⟩ | refine List.forall_mem_cons.2 ⟨fun v w w' ⟨a,n,c,h,hk⟩ hb=>⟨a,n,c,h,hk.grow hb⟩,?_⟩ | refine List.forall_mem_cons.2 ⟨fun v w w' ⟨X,h,hX,hr⟩ hb=>⟨X,h,hX,hr.below hb hr.lt⟩,?_⟩)
 exact List.forall_mem_nil _
theorem uniAN7 (p:GP) (nn:Int) (pv:Value) (B0:Nat) (K:World→Value→Prop) (Q:Exit→Act→World→Prop):∀ i,i<9→(fun i=>i ∉ ([6,7,8]:List Nat)→∀ c w,BaseAN7 p nn pv B0 K c→WorldAN7 p nn pv B0 K w→(∀ q0 ∈ ancAN7 i,factsAt (factsAN7 p nn pv B0 K) q0 (val RAN7 c q0) w)→Does Tryz.prog RAN7 Q (factsAt (factsAN7 p nn pv B0 K)) i c w) i:=by
 iterate 9 (refine below_succ ?_ (by
  intro hn c w hb hW hF
  first
  | exact absurd (by decide) hn
  | (have hEq:=factsL_of hLAN7 (by decide) hF
     refine does_told hLAN7 (by decide) rfl (fun _=>rfl) ?_
     obtain ⟨t0,t2⟩:=hb
     obtain ⟨c2,b0,k6⟩:=hW
     have ec:=evc c
     have ef:=evf c
     dsimp only [ancAN7,LAN7,factsAN7,nth,FactsL,look,eqv] at hEq ⊢
     refine .inl fun pos af=>?_
     clear hF hn k6
     dsimp only [Sig.oper]
     generalize c.eval=ρ at *
     go_simp
     done)))
 exact below_zero
theorem allAN7 (p:GP) (nn:Int) (pv:Value) (B0:Nat) (K:World→Value→Prop) (Q:Exit→Act→World→Prop):∀ i,i<9→(fun i=>∀ c w,BaseAN7 p nn pv B0 K c→WorldAN7 p nn pv B0 K w→(∀ q0 ∈ ancAN7 i,factsAt (factsAN7 p nn pv B0 K) q0 (val RAN7 c q0) w)→Does Tryz.prog RAN7 Q (factsAt (factsAN7 p nn pv B0 K)) i c w) i:=by
 intro i hi
 by_cases h6:i=6
 ·subst h6;exact fun c w=>oAN7_6 p nn pv B0 K Q c w
 by_cases h7:i=7
 ·subst h7;exact fun c w=>oAN7_7 p nn pv B0 K Q c w
 by_cases h8:i=8
 ·subst h8;exact fun c w=>oAN7_8 p nn pv B0 K Q c w
 exact uniAN7 p nn pv B0 K Q i hi (by simp [*])
theorem regionAN7 (p:GP) (nn:Int) (pv:Value) (B0:Nat) (K:World→Value→Prop) (Q:Exit→Act→World→Prop) (base:Act) (w0:World) (hsz:base.tmps.size=79) (hb:BaseAN7 p nn pv B0 K base)
  (hW:∀ w,Below w0.heap.size w0 w→WorldAN7 p nn pv B0 K w) (hL:∀ c w,Same RAN7 base c→Below w0.heap.size w0 w→(fun v w=>∃ a n c,v=.agg #[.int .i64 nn,.slice none 0 0,.slice a n c]∧KB K w (.slice a n c)) (c.eval (.tmp 40)) w→(fun v w=>∃ X,v=.pointer (some ⟨X,0,none⟩)∧B0≤X∧Rec w X #[.int .i64 0,.slice none 0 0,.slice none 0 0] 47) (c.eval (.tmp 8)) w→∃ w',(execOp c.eval (⟨none,.store 47 (.tmp 8) (.tmp 40),0, "edit.go:22",#[⟨8,.data⟩,⟨7,.data⟩,⟨6,.chain⟩,⟨0,.phase⟩,⟨1,.phase⟩,⟨2,.phase⟩,⟨3,.phase⟩,⟨4,.phase⟩,⟨5,.phase⟩,⟨6,.phase⟩,⟨7,.phase⟩,⟨8,.phase⟩],none⟩:Oper)).run Tryz.prog w=.ok .skip w'∧Q .normal c w'):(Code.region 7 RAN7 true).wp Tryz.prog Q base w0:=by
 have hall:(List.range 9).all (fun i=>(slotOf RAN7 i).isSome)=true:=by kernel_rfl
 refine facts_last (A:=ancAN7) (F:=factsAt (factsAN7 p nn pv B0 K)) 9 (by kernel_rfl) (by kernel_rfl) (by kernel_rfl) (by rw [hsz];kernel_rfl) ?_ (by decide) (fun i v w w'=>factsAt_stable (stableAN7 p nn pv B0 K) i v w w') ?_ ?_
 ·exact fun i hi=>Option.isSome_iff_exists.1 (List.all_eq_true.1 hall i (List.mem_range.2 hi))
 ·intro i hi c w hS hB hF
  exact allAN7 p nn pv B0 K Q i hi c w ⟨(same_eval hS (by kernel_rfl)).trans hb.t0,(same_eval hS (by kernel_rfl)).trans hb.t2⟩ (hW w hB) hF
 ·intro c w hS hB hF
  obtain ⟨w',h1,h2⟩:=hL c w hS hB (fact_at (p:=fun v w=>∃ a n c,v=.agg #[.int .i64 nn,.slice none 0 0,.slice a n c]∧KB K w (.slice a n c)) (by kernel_rfl) rfl (hF 7 (by omega))) (fact_at (p:=fun v w=>∃ X,v=.pointer (some ⟨X,0,none⟩)∧B0≤X∧Rec w X #[.int .i64 0,.slice none 0 0,.slice none 0 0] 47) (by kernel_rfl) rfl (hF 8 (by omega)))
  exact last_skip (by kernel_rfl) (want_none rfl) h1 h2
noncomputable def RAN13  : Array Oper:=regionAt Tryz.f30 13
def LAN13  : List Sig:=[⟨60,.move (.tmp 0),31,none⟩,⟨61,.nilCheck (.tmp 60),0,none⟩,⟨62,.fieldAddr 74 (.tmp 61) 0,0,none⟩,⟨63,.fieldAddr 71 (.tmp 62) 0,0,none⟩,⟨64,.load 68 (.tmp 63),68,none⟩,⟨65,.fieldAddr 47 (.tmp 8) 0,0,none⟩,⟨66,.load 2 (.tmp 65),2,none⟩,⟨67,.load 47 (.tmp 8),47,none⟩]
theorem hLAN13  : (sigsOf RAN13).take LAN13.length=LAN13.map some:=by kernel_rfl
def ancAN13 (i:Nat):List Nat:=nth [] [[],[0],[1],[2],[3],[],[5],[],[0,1,2,3,4,5,6,7]] i
def factsAN13 (p:GP) (nn:Int) (X:Nat) (la pa:Option Addr) (ln lc pn pc:Nat):List (Value→World→Prop) :=
 [eqv (.pointer (some ⟨p.g,0,none⟩)),eqv (.pointer (some ⟨p.g,0,none⟩)),eqv (.pointer (some ⟨p.g,0,none⟩)),eqv (.pointer (some ⟨p.g,0,none⟩)),eqv (.map (some p.n)),eqv (.pointer (some ⟨X,0,none⟩)),eqv (.int .i64 nn),eqv (.agg #[.int .i64 nn,.slice la ln lc,.slice pa pn pc])]
structure BaseAN13 (p:GP) (nn:Int) (X:Nat) (la pa:Option Addr) (ln lc pn pc:Nat) (c:Act):Prop where
 t0:c.eval (.tmp 0)=.pointer (some ⟨p.g,0,none⟩)
 t8:c.eval (.tmp 8)=.pointer (some ⟨X,0,none⟩)
structure WorldAN13 (p:GP) (nn:Int) (X:Nat) (la pa:Option Addr) (ln lc pn pc:Nat) (w:World):Prop where
 c0:w.cell? ⟨p.g,0,none⟩=some (.map (some p.n))
 x0:w.cell? ⟨X,0,none⟩=some (.int .i64 nn)
 x1:w.cell? ⟨X,1,none⟩=some (.slice la ln lc)
 x2:w.cell? ⟨X,2,none⟩=some (.slice pa pn pc)
theorem stableAN13 (p:GP) (nn:Int) (X:Nat) (la pa:Option Addr) (ln lc pn pc:Nat):∀ pr ∈ factsAN13 p nn X la pa ln lc pn pc,Stable pr:=by
 unfold factsAN13
 iterate 8 (first | refine List.forall_mem_cons.2 ⟨eqv_stable _,?_⟩)
 exact List.forall_mem_nil _
theorem uniAN13 (p:GP) (nn:Int) (X:Nat) (la pa:Option Addr) (ln lc pn pc:Nat) (Q:Exit→Act→World→Prop):∀ i,i<8→(fun i=>i ∉ ([]:List Nat)→∀ c w,BaseAN13 p nn X la pa ln lc pn pc c→WorldAN13 p nn X la pa ln lc pn pc w→(∀ q0 ∈ ancAN13 i,factsAt (factsAN13 p nn X la pa ln lc pn pc) q0 (val RAN13 c q0) w)→Does Tryz.prog RAN13 Q (factsAt (factsAN13 p nn X la pa ln lc pn pc)) i c w) i:=by
 iterate 8 (refine below_succ ?_ (by
  intro hn c w hb hW hF
  first
  | exact absurd (by decide) hn
  | (have hEq:=factsL_of hLAN13 (by decide) hF
     refine does_told hLAN13 (by decide) rfl (fun _=>rfl) ?_
     obtain ⟨t0,t8⟩:=hb
     obtain ⟨c0,x0,x1,x2⟩:=hW
     have ec:=evc c
     have ef:=evf c
     dsimp only [ancAN13,LAN13,factsAN13,nth,FactsL,look,eqv] at hEq ⊢
     refine .inl fun pos af=>?_
     clear hF hn
     dsimp only [Sig.oper]
     generalize c.eval=ρ at *
     go_simp
     done)))
 exact below_zero
theorem allAN13 (p:GP) (nn:Int) (X:Nat) (la pa:Option Addr) (ln lc pn pc:Nat) (Q:Exit→Act→World→Prop):∀ i,i<8→(fun i=>∀ c w,BaseAN13 p nn X la pa ln lc pn pc c→WorldAN13 p nn X la pa ln lc pn pc w→(∀ q0 ∈ ancAN13 i,factsAt (factsAN13 p nn X la pa ln lc pn pc) q0 (val RAN13 c q0) w)→Does Tryz.prog RAN13 Q (factsAt (factsAN13 p nn X la pa ln lc pn pc)) i c w) i:=by
 intro i hi
 exact uniAN13 p nn X la pa ln lc pn pc Q i hi (by simp [*])
theorem regionAN13 (p:GP) (nn:Int) (X:Nat) (la pa:Option Addr) (ln lc pn pc:Nat) (Q:Exit→Act→World→Prop) (base:Act) (w0:World) (hsz:base.tmps.size=79) (hb:BaseAN13 p nn X la pa ln lc pn pc base)
  (hW:∀ w,Below w0.heap.size w0 w→WorldAN13 p nn X la pa ln lc pn pc w) (hL:∀ c w,Same RAN13 base c→Below w0.heap.size w0 w→c.eval (.tmp 64)=.map (some p.n)→c.eval (.tmp 66)=.int .i64 nn→c.eval (.tmp 67)=.agg #[.int .i64 nn,.slice la ln lc,.slice pa pn pc]→∃ w',(execOp c.eval (⟨none,.mapUpdate 68 (.tmp 64) (.tmp 66) (.tmp 67),0, "edit.go:27",#[⟨4,.data⟩,⟨6,.data⟩,⟨7,.data⟩,⟨0,.phase⟩,⟨1,.phase⟩,⟨2,.phase⟩,⟨3,.phase⟩,⟨4,.phase⟩,⟨5,.phase⟩,⟨6,.phase⟩,⟨7,.phase⟩],none⟩:Oper)).run Tryz.prog w=.ok .skip w'∧Q .normal c w'):(Code.region 13 RAN13 true).wp Tryz.prog Q base w0:=by
 have hall:(List.range 8).all (fun i=>(slotOf RAN13 i).isSome)=true:=by kernel_rfl
 refine facts_last (A:=ancAN13) (F:=factsAt (factsAN13 p nn X la pa ln lc pn pc)) 8 (by kernel_rfl) (by kernel_rfl) (by kernel_rfl) (by rw [hsz];kernel_rfl) ?_ (by decide) (fun i v w w'=>factsAt_stable (stableAN13 p nn X la pa ln lc pn pc) i v w w') ?_ ?_
 ·exact fun i hi=>Option.isSome_iff_exists.1 (List.all_eq_true.1 hall i (List.mem_range.2 hi))
 ·intro i hi c w hS hB hF
  exact allAN13 p nn X la pa ln lc pn pc Q i hi c w ⟨(same_eval hS (by kernel_rfl)).trans hb.t0,(same_eval hS (by kernel_rfl)).trans hb.t8⟩ (hW w hB) hF
 ·intro c w hS hB hF
  obtain ⟨w',h1,h2⟩:=hL c w hS hB (fact_at (p:=eqv (.map (some p.n))) (by kernel_rfl) rfl (hF 4 (by omega))) (fact_at (p:=eqv (.int .i64 nn)) (by kernel_rfl) rfl (hF 6 (by omega))) (fact_at (p:=eqv (.agg #[.int .i64 nn,.slice la ln lc,.slice pa pn pc])) (by kernel_rfl) rfl (hF 7 (by omega)))
  exact last_skip (by kernel_rfl) (want_none rfl) h1 h2
end Go.Proofs.YteddjlbfbpecjaaGreatDoor

