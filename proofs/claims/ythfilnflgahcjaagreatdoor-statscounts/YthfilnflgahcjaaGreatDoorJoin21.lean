/- Values numbered by their texts as they come (numbering 96, 126); what a text is, is handed in. A key's counts, numbered. Worths: a key's row and a value's number, as a key of a map; the map that counts them. Counts gathered one behind the other; the labels of a node; what begins and ends where. What was counted, in order. What nodes have under their keys, numbered as it comes; what is counted of it. -/
import Derived.Test.YthfilnflgahcjaaGreatDoorJoin20
import Derived.Test.YthfilnflgahcjaaGreatDoorJoin3
import Derived.Test.YthfilnflgahcjaaGreatDoorJoin8
import Derived.Test.YthfilnflgahcjaaGreatDoorJoin6
import Derived.Maps.RangeRun
namespace Go.Proofs.YthfilnflgahcjaaGreatDoor
open Go.RowKit Go.Shelf Go.Maps
set_option linter.all false
attribute [local go_sem] Oper.semAt_some
theorem Zuo:Tryz.prog.underlying 187=some (.map 9 3):=by kernel_rfl
theorem Jg7 {α:Type} {kt:TypeId} {enc:α->Value} {ok:α->Prop} {t e ty:TypeId} (ht:Tryz.prog.underlying t=some (.map kt e)) {w:World} {b:Nat} {es:List (α × Value)} (h:MG enc ok w b es):(Builtin.len_ #[t] ty #[.map (some b)]).run Tryz.prog w=.ok (.int .i64 es.length) w:=by
 obtain ⟨ar,Q,y,o,h3,hS⟩:=h
 have hl:ar.size=es.length:=by have:=congrArg List.length o;simpa using this
 simp [Builtin.len_,run_underlying ht,MapKept.run_getObj_map y,hl,goInt,Builtin.lenOf,Result.andThen]
def Zbt:List ByteArray->Nat->List (ByteArray × Value)
 | [],_=>[]
 | t::r,i=>(t,.int .i64 i)::Zbt r (i+1)
theorem Zlz (t:ByteArray):∀ (ts:List ByteArray) (i:Nat),Zbt (ts++[t]) i=Zbt ts i++[(t,.int .i64 ((i+ts.length:Nat):Int))]
 | [],i=>by simp [Zbt]
 | a::r,i=>by simp only [List.cons_append,Zbt,Zlz t r (i+1),List.length_cons];rw [show i+1+r.length=i+(r.length+1) by omega]
theorem Zni:∀ (ts:List ByteArray) (i:Nat),(Zbt ts i).length=ts.length
 | [],i=>rfl
 | a::r,i=>by simp [Zbt,Zni r]
def Zbm (t:ByteArray):List ByteArray->Nat
 | []=>0
 | a::r=>if a=t then 0 else Zbm t r+1
theorem Zji {t:ByteArray} {v:Value}:∀ {ts:List ByteArray} {i:Nat},(t,v) ∈ Zbt ts i->t ∈ ts
 | [],i,h=>by simp [Zbt] at h
 | a::r,i,h=>by
  rcases List.mem_cons.1 h with h | h
  ·rw [(Prod.mk.inj h).1];exact List.mem_cons_self
  ·exact List.mem_cons_of_mem _ (Zji h)
theorem Znj {t:ByteArray}:∀ {ts:List ByteArray} {i:Nat},ts.Nodup->t ∈ ts->(t,Value.int .i64 ((i+Zbm t ts:Nat):Int)) ∈ Zbt ts i/\∀ p ∈ Zbt ts i,p.1=t->p.2=.int .i64 ((i+Zbm t ts:Nat):Int)
 | [],i,_,h=>by simp at h
 | a::r,i,hn,h=>by
  obtain ⟨y,o⟩:=List.nodup_cons.1 hn
  by_cases e:a=t
  ·subst e
   simp only [Zbm,if_true,Zbt,Nat.add_zero]
   refine ⟨List.mem_cons_self,fun p g l=>?_⟩
   rcases List.mem_cons.1 g with rfl | g
   ·rfl
   ·exact absurd (Zji (t:=p.1) (v:=p.2) g) (by rw [l];exact y)
  ·have hr:t ∈ r:=(List.mem_cons.1 h).resolve_left (fun h=>e h.symm)
   obtain ⟨q1,q2⟩:=Znj (i:=i+1) o hr
   simp only [Zbm,if_neg e,Zbt]
   rw [show i+(Zbm t r+1)=i+1+Zbm t r by omega]
   refine ⟨List.mem_cons_of_mem _ q1,fun p g l=>?_⟩
   rcases List.mem_cons.1 g with rfl | g
   ·exact absurd l e
   ·exact q2 p g l
theorem Zgk {t:ByteArray}:∀ {ts:List ByteArray},t ∉ ts->Zbm t ts=ts.length
 | [],_=>rfl
 | a::r,h=>by
  rw [Zbm,if_neg (fun e=>h (by rw [e];exact List.mem_cons_self)),Zgk (fun h'=>h (List.mem_cons_of_mem _ h'))];rfl
theorem Zow {t:ByteArray}:∀ {ts:List ByteArray},t ∈ ts->Zbm t ts<ts.length
 | [],h=>by simp at h
 | a::r,h=>by
  rw [Zbm]
  split
  ·simp
  ·rename_i e
   have:=Zow ((List.mem_cons.1 h).resolve_left (fun h=>e h.symm))
   simp;omega
def Zdz (t:ByteArray) (ts:List ByteArray):List ByteArray:=if Zbm t ts<ts.length then ts else ts++[t]
theorem Zgl {t:ByteArray} {ts:List ByteArray} (h:t ∈ ts):Zdz t ts=ts:=if_pos (Zow h)
theorem Zgm {t:ByteArray} {ts:List ByteArray} (h:t ∉ ts):Zdz t ts=ts++[t]:=if_neg (by rw [Zgk h];omega)
set_option maxRecDepth 100000 in
theorem Zox (w:World):Calls Tryz.prog 96 #[] w fun e w'=>∃ bx m,e=.returned (.func (.func 126) #[] #[.pointer (some ⟨bx,0,none⟩)])/\Rec w' bx #[.map (some m)] 187/\MG Zke okS w' m (Zbt [] 0)/\w.heap.size<=bx/\w.heap.size<=m/\bx≠m/\Below w.heap.size w w':=by
 have a1:∀ W:World,(Instr.makeMap 187 none).run Tryz.prog W=.ok (.map (some W.heap.size)) (W.alloc (.map #[] 0)):=fun W=>rfl
 go_enter Tryz.func96,Tryz.ntmps96
 go_wp2_with fail
 go_ret
 have hb:Below (w.heap.size+1) (w.alloc (.map #[] 0)) ((w.alloc (.map #[] 0)).alloc (.cells #[.map (some w.heap.size)] 187)):=(Below.refl _ _).alloc (by simp) _
 have hr:=Zk (w.alloc (.map #[] 0)) #[.map (some w.heap.size)] 187
 rw [World.size_alloc] at hr
 refine ⟨w.heap.size+1,w.heap.size,rfl,hr,MG.block (Zc9 w) (hb.block _ (by omega)),by omega,Nat.le_refl _,by omega,((Below.refl _ _).alloc (Nat.le_refl _) _).trans (hb.mono (by omega))⟩
set_option maxRecDepth 100000 in
set_option maxHeartbeats 4000000 in
theorem Zv4 (k:Int) (b:Bool) (n:Int) (s:ByteArray) (ka la:Option Addr) (H kc ll lc:Nat) (tx:ByteArray) (er:Int) (ts:List ByteArray) (bx m:Nat) (w:World) (hr:Rec w bx #[.map (some m)] 187) (hm:MG Zke okS w m (Zbt ts 0)) (a0:bx≠m) (O:ts.Nodup) (hl:ts.length<=1000000) (q:okS tx)
  (A:∀ W,Below w.heap.size w W->Calls Tryz.prog 127 #[.agg #[.int .i64 k,.bool b,.int .i64 n,.string s,.slice ka H kc,.slice la ll lc]] W fun e w'=>e=.returned (.tuple #[.string tx,.int .i64 er])/\Below W.heap.size W w') :
  Calls Tryz.prog 126 #[.agg #[.int .i64 k,.bool b,.int .i64 n,.string s,.slice ka H kc,.slice la ll lc],.pointer (some ⟨bx,0,none⟩)] w fun e w'=>e=.returned (.int .i64 (Zbm tx ts))/\MG Zke okS w' m (Zbt (Zdz tx ts) 0)/\(∀ i,i<w.heap.size->i≠m->w'.heap[i]?=w.heap[i]?)/\(∀ B,B<=m->B<=w.heap.size->Below B w w'):=by
 have HT:=Za A
 have V:=Za hr
 have R:=Za hm
 have a2:=hr.lt
 have K:=MG.lt hm
 obtain ⟨z,u⟩:∃ z,Zbm tx ts=z:=⟨_,rfl⟩
 rw [u]
 have C:=Za u
 clear A hr hm u
 obtain ⟨Y,j⟩:∃ W,w.alloc (.cells #[.int .i64 k,.bool b,.int .i64 n,.string s,.slice ka H kc,.slice la ll lc] 88)=W:=⟨_,rfl⟩
 have D:Below w.heap.size w Y:=by rw [<- j];exact (Below.refl _ _).alloc (Nat.le_refl _) _
 have c:Rec Y w.heap.size #[.int .i64 k,.bool b,.int .i64 n,.string s,.slice ka H kc,.slice la ll lc] 88:=by rw [<- j];exact Zk _ _ _
 have c0:=c.cell 0 rfl
 have c1:=c.cell 1 rfl
 have c2:=c.cell 2 rfl
 have c3:=c.cell 3 rfl
 have c4:=c.cell 4 rfl
 have c5:=c.cell 5 rfl
 have F:=Za D
 clear D c
 go_enter Tryz.func126,Tryz.ntmps126
 go_upto_region 1 with fail
 try rw [j]
 clear j
 go_wp2_with fail
 refine (HT.out _ F.out).mono ?_
 rintro e W2 ⟨rfl,G⟩
 have d:Hid (Below w.heap.size w W2):=Below.on F.out G
 have d0:=(V.out.below d.out V.out.lt).cell 0 rfl
 have hm2:MG Zke okS W2 m (Zbt ts 0):=MG.block R.out (d.out.block m K)
 clear G c0 c1 c2 c3 c4 c5
 have hz:∀ w,(zeroValue 3).run Tryz.prog w=.ok (.int .i64 0) w:=Tryz.zeroValue3
 by_cases hin:tx ∈ ts
 ·obtain ⟨p1,p2⟩:=Znj (i:=0) O hin
  have I:=(Zuj (z:=.int .i64 0) Jay Zuo hm2 tx _ q p1 p2).1
  rw [Nat.zero_add,C.out] at I
  have M:Hid (Zdz tx ts=ts):=Zgl hin
  have N:=Za hm2
  simp only [Zke] at I
  clear p1 p2 hm2
  go_wp2_with fail
  go_ret
  exact ⟨rfl,by rw [M.out];exact N.out,fun i L _=>d.out.block i L,fun B y o=>d.out.mono o⟩
 ·have x:∀ p ∈ Zbt ts 0,p.1≠tx:=fun p g e=>hin (by rw [<- e];exact Zji (v:=p.2) g)
  have I:=(Zsx (z:=.int .i64 0) Jay Zuo hz hm2 tx q x).1
  have ln:=Jg7 (ty:=3) Zuo hm2
  rw [Zni] at ln
  obtain ⟨S,f1,X,f3,U,T⟩:=Zy7 Jay Zuo hm2 tx (.int .i64 ts.length) q x
  have M:Hid (Zbt (Zdz tx ts) 0=Zbt ts 0++[(tx,.int .i64 ts.length)]):=by
   show _=_
   rw [Zgm hin,Zlz,Nat.zero_add]
  have f:Hid (MG Zke okS S m (Zbt (Zdz tx ts) 0)/\(∀ i,i<w.heap.size->i≠m->S.heap[i]?=w.heap[i]?)/\(∀ B,B<=m->B<=w.heap.size->Below B w S)) :=
   ⟨by rw [M.out];exact X,fun i L P=>(U i P).trans (d.out.block i L),fun B y o=>(d.out.mono o).trans (T.mono y)⟩
  have E:ts.length=z:=by rw [<- Zgk hin];exact C.out
  rw [E] at ln f1
  simp only [Zke] at I f1
  clear X f3 U T hm2 E x hl
  go_wp2_with fail
  go_ret
  exact ⟨rfl,f.out.1,f.out.2.1,f.out.2.2⟩
end Go.Proofs.YthfilnflgahcjaaGreatDoor

namespace Go.Proofs.YthfilnflgahcjaaGreatDoor
open Go.RowKit Go.Shelf Go.Maps
set_option linter.all false
attribute [local go_sem] Oper.semAt_some
theorem Jcj:Tryz.prog.underlying 157=some (.map 66 2):=by kernel_rfl
set_option maxRecDepth 100000 in
set_option maxHeartbeats 4000000 in
theorem Jdr (s t:ByteArray) (z c:Int) (bx:Nat) (m:Nat) (w:World) (hr:Rec w bx #[.map (some m)] 157) (a:∀ W,W.heap[m]?=w.heap[m]?->(Instr.lookup 157 (.map (some m)) (Zfw (s,t,0,0)) false).run Tryz.prog W=.ok (.int .i64 c) W) (hm:m<w.heap.size) :
  Calls Tryz.prog 97 #[Zfw (s,t,0,0),.int .i64 z,.pointer (some ⟨bx,0,none⟩)] w fun e w'=>e=.returned (Zfw (s,t,z,c))/\Below w.heap.size w w':=by
 have b:=Za a
 simp only [Zfw] at b |-
 have d:=hr.lt
 go_enter Tryz.func97,Tryz.ntmps97
 go_upto_region 1 with fail
 have hb:∀ y:Int,Below w.heap.size w ((w.alloc (.cells #[.string s,.string t,.int .i64 y,.int .i64 0] 66)).alloc (.cells #[.string ⟨#[]⟩,.string ⟨#[]⟩,.int .i64 0,.int .i64 0] 66)):=fun y=>((Below.refl w.heap.size w).alloc (Nat.le_refl _) _).alloc (by simp) _
 have d0:∀ y:Int,((w.alloc (.cells #[.string s,.string t,.int .i64 y,.int .i64 0] 66)).alloc (.cells #[.string ⟨#[]⟩,.string ⟨#[]⟩,.int .i64 0,.int .i64 0] 66)).cell? ⟨bx,0,none⟩=some (.map (some m)):=fun y=>((hr.up (.cells #[.string s,.string t,.int .i64 y,.int .i64 0] 66)).up (.cells #[.string ⟨#[]⟩,.string ⟨#[]⟩,.int .i64 0,.int .i64 0] 66)).cell 0 rfl
 have f:=fun y:Int=>b.out _ ((hb y).drew.block m hm)
 clear hr a hb
 go_region_with fail
 all_goals
  go_wp2_with fail
  refine bodyPost_ret (v:=.agg #[.string s,.string t,.int .i64 z,.int .i64 c]) (by simp [results,Tryz.results97,go_sem]) rfl ⟨rfl,?_⟩
  exact (((Below.refl w.heap.size w).alloc (Nat.le_refl _) _).alloc (by simp) _).drew
end Go.Proofs.YthfilnflgahcjaaGreatDoor

namespace Go.Proofs.YthfilnflgahcjaaGreatDoor
open Go.RowKit Go.Shelf Go.Maps
set_option linter.all false
theorem Je2:WideMaps.KeyLaw Tryz.prog 156:=deep_law_laid Zg0 (m:=3) (by omega) (by rw [Zat];decide) (by kernel_rfl) (by kernel_rfl)
theorem Zs9:Tryz.prog.cellsOf 156=5:=by kernel_rfl
theorem Je3 (o:ByteArray) (k:ByteArray) (n:Int) (j:Int) (p:Int) (s:o.size<=maxLen) (D:k.size<=maxLen) (G:W64 n) (t:W64 j) (B:W64 p):∃ l,keyOf Tryz.prog 156 (.agg #[.string o,.string k,.int .i64 n,.int .i64 j,.int .i64 p])=some l:=by
 have r:∀ d,Tryz.prog.keyLits (d+2) 66 [.string o,.string k,.int .i64 n,.int .i64 j]=some [.string o.data.toList,.string k.data.toList,.int .i64 n,.int .i64 j]:=by
  intro d
  unfold Program.keyLits
  unfold W64 at *
  simp [Tryz.underlying66,Zon,Program.keyLits,Tryz.underlying9,Tryz.underlying2,Tryz.underlying4,Zgj,Zeo,Zm6,s,D,G,t]
 have I:∀ d,Tryz.prog.keyLits (d+2) 3 [.int .i64 p]=some [.int .i64 p]:=by
  intro d
  unfold Program.keyLits
  unfold W64 at *
  simp [Tryz.underlying3,Jcy,B]
 have e:∀ d,Tryz.prog.keyLits (d+3) 156 [.string o,.string k,.int .i64 n,.int .i64 j,.int .i64 p]=some [.string o.data.toList,.string k.data.toList,.int .i64 n,.int .i64 j,.int .i64 p]:=by
  intro d
  unfold Program.keyLits
  simp [Tryz.underlying156,Zs9,Zon,Jcy,r d,I d]
 unfold keyOf
 rw [Tryz.underlying156]
 dsimp only
 rw [if_pos (by rw [show Tryz.prog.keyType 156=true by kernel_rfl];simp [Value.formed,Tryz.underlying156,Zs9]),Zat]
 exact ⟨_,by rw [show (Value.agg #[.string o,.string k,.int .i64 n,.int .i64 j,.int .i64 p]).cells.toList=[.string o,.string k,.int .i64 n,.int .i64 j,.int .i64 p] from rfl,show 314+1=312+3 from rfl,e];rfl⟩
abbrev Zhl:=Zav × Int
def Zpf (x:Zhl):Value:=.agg #[.string x.1.1,.string x.1.2.1,.int .i64 x.1.2.2.1,.int .i64 x.1.2.2.2,.int .i64 x.2]
def okW (x:Zhl):Prop:=okK x.1/\W64 x.2
theorem Jir:Znc 156 Zpf okW:=⟨Keyed.of_law Je2,fun x f=>Je3 _ _ _ _ _ f.1.1 f.1.2.1 f.1.2.2.1 f.1.2.2.2 f.2,fun x y h=>by
 obtain ⟨⟨a,b,c,d⟩,e⟩:=x
 obtain ⟨⟨N,M,O,L⟩,K⟩:=y
 have:=Zi8 h
 simp at this
 obtain ⟨rfl,rfl,rfl,rfl,rfl⟩:=this
 rfl⟩
theorem Je4:Tryz.prog.underlying 152=some (.map 156 2):=by kernel_rfl
theorem Zuy {W:World} {b:Nat} {ks:List Zhl} (h:MC Zpf okW W b (cnt ks)) (x:Zhl) (f:okW x) (hl:ks.length<=1000000000) :
  ∃ (g:Nat) (w1 w2:World) (c:Int),0<=c/\c<=1000000000/\IntKind.i64.wrap (c+1)=c+1/\(Instr.lookup 152 (.map (some b)) (Zpf x) false).run Tryz.prog W.drew=.ok (.int .i64 c) W.drew/\(Instr.mapEntry 152 (.map (some b)) (Zpf x)).run Tryz.prog W.drew=.ok (.tuple #[.int .i64 c,.int .i64 g]) w1/\(Instr.lookup 152 (.map (some b)) (Zpf x) false).run Tryz.prog w1=.ok (.int .i64 c) w1/\(Instr.entryStore 152 (.map (some b)) (.int .i64 g) (.int .i64 (c+1))).run Tryz.prog w1=.ok () w2/\MC Zpf okW w2 b (cnt (ks++[x]))/\w2.heap.size=W.heap.size/\(∀ i,i≠b->w2.heap[i]?=W.heap[i]?)/\Below b W w2:=by
 obtain ⟨g,w1,w2,F,u,C,E,z,A,v,q⟩:=Zhn Jir Je4 (w:=W.drew) h (Ziq _) x f 1
 have H:=Zlu ks x
 refine ⟨g,w1,w2,_,H.1,by omega,by rw [IntKind.wrap_i64];omega,F,u,C,E,by rw [Zuf];exact z,A,v,((Below.refl b W).drew).trans q⟩
theorem Zta {W:World} {b:Nat} {cs:List (Zav × Int)} (h:MC Zfw okK W b cs) (hn:(cs.map Prod.fst).Nodup) (x:Zav) (f:okK x) (d:Int) :
  ∃ (g:Nat) (w1 w2:World),(Instr.lookup 157 (.map (some b)) (Zfw x) false).run Tryz.prog W.drew=.ok (.int .i64 (Zn x cs)) W.drew/\(Instr.mapEntry 157 (.map (some b)) (Zfw x)).run Tryz.prog W.drew=.ok (.tuple #[.int .i64 (Zn x cs),.int .i64 g]) w1/\(Instr.lookup 157 (.map (some b)) (Zfw x) false).run Tryz.prog w1=.ok (.int .i64 (Zn x cs)) w1/\(Instr.entryStore 157 (.map (some b)) (.int .i64 g) (.int .i64 (Zn x cs+d))).run Tryz.prog w1=.ok () w2/\MC Zfw okK w2 b (Zcn x d cs)/\w2.heap.size=W.heap.size/\(∀ i,i≠b->w2.heap[i]?=W.heap[i]?)/\Below b W w2:=by
 obtain ⟨g,w1,w2,F,u,C,E,z,A,v,q⟩:=Zhn Jeu Jcj (w:=W.drew) h hn x f d
 exact ⟨g,w1,w2,F,u,C,E,z,A,v,((Below.refl b W).drew).trans q⟩
end Go.Proofs.YthfilnflgahcjaaGreatDoor

namespace Go.Proofs.YthfilnflgahcjaaGreatDoor
open Go.RowKit Go.Shelf Go.Maps
set_option linter.all false
set_option linter.unusedSectionVars false
section
variable {α:Type} [DecidableEq α]
def Jc (l:List (α × Int)):List (α × Int):=l.foldl (fun cs p=>Zcn p.1 p.2 cs) []
theorem Zhk (l:List (α × Int)) (p:α × Int):Jc (l++[p])=Zcn p.1 p.2 (Jc l):=by simp [Jc]
theorem Jq (l:List (α × Int)):((Jc l).map Prod.fst).Nodup:=by
 unfold Jc
 suffices h:∀ (l:List (α × Int)) (cs:List (α × Int)),(cs.map Prod.fst).Nodup->((l.foldl (fun cs p=>Zcn p.1 p.2 cs) cs).map Prod.fst).Nodup from h l [] List.nodup_nil
 intro l
 induction l with
 | nil=>intro cs h;exact h
 | cons t r g=>intro cs h;exact g _ (Zgv _ _ _ h)
theorem Zbc (l:List (α × Int)) (x:α):x ∈ (Jc l).map Prod.fst↔x ∈ l.map Prod.fst:=by
 unfold Jc
 suffices h:∀ (l:List (α × Int)) (cs:List (α × Int)),x ∈ (l.foldl (fun cs p=>Zcn p.1 p.2 cs) cs).map Prod.fst↔x ∈ cs.map Prod.fst\/x ∈ l.map Prod.fst by
  have:=h l []
  simpa using this
 intro l
 induction l with
 | nil=>intro cs;simp
 | cons t r g =>
  intro cs
  rw [List.foldl_cons,g,Zij,List.map_cons,List.mem_cons]
  constructor
  ·rintro ((h | h) | h)
   ·exact .inr (.inl h)
   ·exact .inl h
   ·exact .inr (.inr h)
  ·rintro (h | h | h)
   ·exact .inl (.inr h)
   ·exact .inl (.inl h)
   ·exact .inr h
def Zg7 (x:α):List (α × Int)->Int
 | []=>0
 | p::r=>(if p.1=x then p.2 else 0)+Zg7 x r
theorem Jf (l:List (α × Int)) (x:α):Zn x (Jc l)=Zg7 x l:=by
 unfold Jc
 suffices h:∀ (l:List (α × Int)) (cs:List (α × Int)),Zn x (l.foldl (fun cs p=>Zcn p.1 p.2 cs) cs)=Zn x cs+Zg7 x l by
  have:=h l []
  simpa [Zn] using this
 intro l
 induction l with
 | nil=>intro cs;simp [Zg7]
 | cons t r g =>
  intro cs
  rw [List.foldl_cons,g,Zgw,Zg7]
  by_cases h:x=t.1
  ·rw [if_pos h,if_pos h.symm];omega
  ·rw [if_neg h,if_neg (Ne.symm h)];omega
theorem Zmf {l l':List (α × Int)} (h:l.Perm l') (x:α):Zg7 x l=Zg7 x l':=by
 induction h with
 | nil=>rfl
 | cons p _ g=>simp only [Zg7,g]
 | swap p q t=>simp only [Zg7];omega
 | trans _ _ f o=>exact f.trans o
theorem Zez {x:α} {c:Int} (N:0<=c):∀ {l:List (α × Int)},(∀ p ∈ l,0<=p.2/\p.2<=c)->0<=Zg7 x l/\Zg7 x l<=c*l.length
 | [],_=>by simp [Zg7]
 | p::r,h=>by
  have f:=h p List.mem_cons_self
  have o:=Zez (x:=x) N (l:=r) fun q T=>h q (List.mem_cons_of_mem _ T)
  simp only [Zg7,List.length_cons,Int.natCast_add,Int.natCast_one,Int.mul_add,Int.mul_one]
  split<;>omega
theorem Zbe {x:α} {n:Int}:∀ {cs:List (α × Int)},(cs.map Prod.fst).Nodup->((x,n) ∈ cs↔x ∈ cs.map Prod.fst/\Zn x cs=n)
 | [],_=>by simp
 | (a,m)::r,h=>by
  simp only [List.map_cons,List.nodup_cons] at h
  have g:=Zbe (x:=x) (n:=n) h.2
  rw [List.mem_cons,g,List.map_cons,List.mem_cons,Zn]
  by_cases e:a=x
  ·subst e
   rw [if_pos rfl]
   constructor
   ·rintro (f | f)
    ·exact ⟨.inl rfl,(Prod.mk.inj f).2.symm⟩
    ·exact absurd f.1 h.1
   ·rintro ⟨_,f⟩
    exact .inl (by rw [f])
  ·rw [if_neg e]
   constructor
   ·rintro (f | f)
    ·exact absurd (Prod.mk.inj f).1.symm e
    ·exact ⟨.inr f.1,f.2⟩
   ·rintro ⟨f | f,o⟩
    ·exact absurd f.symm e
    ·exact .inr ⟨f,o⟩
theorem Zjk {l:List (α × Int)} (h:(l.map Prod.fst).Nodup):l.Nodup:=by
 rw [List.nodup_iff_pairwise_ne] at *
 exact (List.pairwise_map.1 h).imp fun h e=>h (by rw [e])
theorem Zra {cs D:List (α × Int)} (f:(cs.map Prod.fst).Nodup) (o:(D.map Prod.fst).Nodup) (hk:∀ x,x ∈ cs.map Prod.fst↔x ∈ D.map Prod.fst) (hn:∀ x,Zn x cs=Zn x D):cs.Perm D :=
 (List.perm_ext_iff_of_nodup (Zjk f) (Zjk o)).2 fun ⟨x,n⟩=>by rw [Zbe f,Zbe o,hk,hn]
theorem Zks {l l':List (α × Int)} (h:l.Perm l'):(Jc l).Perm (Jc l') :=
 Zra (Jq _) (Jq _) (fun x=>by rw [Zbc,Zbc];exact (h.map _).mem_iff) fun x=>by rw [Jf,Jf,Zmf h]
theorem Znr (k:α) (d:Int):∀ (cs:List (α × Int)),(Zcn k d cs).length<=cs.length+1
 | []=>by simp [Zcn]
 | (a,n)::r=>by
  rw [Zcn]
  split
  ·simp
  ·have:=Znr k d r
   simp;omega
theorem Zmg (l:List (α × Int)):(Jc l).length<=l.length:=by
 unfold Jc
 suffices h:∀ (l:List (α × Int)) (cs:List (α × Int)),(l.foldl (fun cs p=>Zcn p.1 p.2 cs) cs).length<=cs.length+l.length by
  have:=h l []
  simpa using this
 intro l
 induction l with
 | nil=>intro cs;simp
 | cons t r g =>
  intro cs
  have:=g (Zcn t.1 t.2 cs)
  have:=Znr t.1 t.2 cs
  simp only [List.foldl_cons,List.length_cons];omega
theorem Zkt (l:List α):(cnt l).length<=l.length:=by
 unfold cnt
 suffices h:∀ (l:List α) (cs:List (α × Int)),(l.foldl (fun cs p=>Zcn p 1 cs) cs).length<=cs.length+l.length by
  have:=h l []
  simpa using this
 intro l
 induction l with
 | nil=>intro cs;simp
 | cons t r g =>
  intro cs
  have:=g (Zcn t 1 cs)
  have:=Znr t 1 cs
  simp only [List.foldl_cons,List.length_cons];omega
theorem Zdb (l:List α) (x:α):x ∈ (cnt l).map Prod.fst↔x ∈ l:=by
 unfold cnt
 suffices h:∀ (l:List α) (cs:List (α × Int)),x ∈ (l.foldl (fun cs p=>Zcn p 1 cs) cs).map Prod.fst↔x ∈ cs.map Prod.fst\/x ∈ l by
  have:=h l []
  simpa using this
 intro l
 induction l with
 | nil=>intro cs;simp
 | cons t r g =>
  intro cs
  rw [List.foldl_cons,g,Zij,List.mem_cons]
  constructor
  ·rintro ((h | h) | h)
   ·exact .inr (.inl h)
   ·exact .inl h
   ·exact .inr (.inr h)
  ·rintro (h | h | h)
   ·exact .inl (.inr h)
   ·exact .inl (.inl h)
   ·exact .inr h
theorem Zh1 (l:List α):∀ p ∈ cnt l,0<=p.2/\p.2<=l.length:=fun ⟨x,n⟩ y=>by
 have:=((Zbe (Ziq l)).1 y).2
 have o:=Zlu l x
 rw [this] at o
 exact o
end
def Zt:List Zj->Int->List ByteArray
 | [],_=>[]
 | n::r,i=>if n.id=i then n.labels else Zt r i
def Zfu (ns:List Zj) (p:Zba × Int):List (Zae × Int):=(Zt ns p.1.1).map fun l=>((p.1.2.1,l,p.1.2.2,0),p.2)
def Jn (ns:List Zj) (s:List (Zba × Int)):List (Zae × Int):=s.flatMap (Zfu ns)
theorem Zrb (ns:List Zj) (s:List (Zba × Int)) (p:Zba × Int):Jn ns (s++[p])=Jn ns s++Zfu ns p:=by simp [Jn]
theorem Zrc (ns:List Zj) {s C:List (Zba × Int)} (h:s.Perm C):(Jn ns s).Perm (Jn ns C):=h.flatMap_right _
theorem Zgo (ns:List Zj) (K:Nat) (I:∀ i,(Zt ns i).length<=K):∀ (s:List (Zba × Int)),(Jn ns s).length<=s.length*K
 | []=>by simp [Jn]
 | p::r=>by
  have f:=Zgo ns K I r
  have o:=I p.1.1
  have e:Jn ns (p::r)=Zfu ns p++Jn ns r:=by simp [Jn]
  rw [e,List.length_append,Zfu,List.length_map,List.length_cons,Nat.succ_mul];omega
theorem Zku {ns:List Zj} {K:Nat} (h:∀ n ∈ ns,n.labels.length<=K):∀ (i:Int),(Zt ns i).length<=K:=by
 intro i
 induction ns with
 | nil=>simp [Zt]
 | cons n r g =>
  rw [Zt]
  split
  ·exact h n List.mem_cons_self
  ·exact g fun m hm=>h m (List.mem_cons_of_mem _ hm)
theorem Zmh:∀ {ns:List Zj} {j:Nat} {x:Zj},(ns.map Zj.id).Nodup->ns[j]?=some x->Zt ns x.id=x.labels
 | [],j,x,_,h=>by simp at h
 | n::r,0,x,_,h=>by
  simp only [List.getElem?_cons_zero,Option.some.injEq] at h
  rw [Zt,if_pos (by rw [h]),h]
 | n::r,j+1,x,u,h=>by
  simp only [List.map_cons,List.nodup_cons] at u
  simp only [List.getElem?_cons_succ] at h
  have hm:x.id ∈ r.map Zj.id:=List.mem_map_of_mem (List.mem_of_getElem? h)
  have G:¬ n.id=x.id:=fun e=>u.1 (by rw [e];exact hm)
  rw [Zt,if_neg G,Zmh u.2 h]
theorem Zkv:∀ {ns:List Zj} {i:Int},(∀ n ∈ ns,n.id≠i)->Zt ns i=[]
 | [],i,_=>rfl
 | n::r,i,h=>by rw [Zt,if_neg (h n List.mem_cons_self),Zkv fun m hm=>h m (List.mem_cons_of_mem _ hm)]
theorem Zux {ns:List Zj} {i:Int} {l:ByteArray} (h:l ∈ Zt ns i):∃ n ∈ ns,n.id=i/\l ∈ n.labels:=by
 induction ns with
 | nil=>simp [Zt] at h
 | cons n r g =>
  rw [Zt] at h
  split at h
  ·exact ⟨n,List.mem_cons_self,‹_›,h⟩
  ·obtain ⟨m,f,o⟩:=g h
   exact ⟨m,List.mem_cons_of_mem _ f,o⟩
theorem Je1 (w:World):(zeroValue 43).run Tryz.prog w=.ok (.slice none 0 0) w:=by kernel_rfl
theorem Zwl {B:Nat} {w0 W:World} {b:Nat} {ns:List Zj} (h:Zug B w0 W b ns) (u:(ns.map Zj.id).Nodup) (i:Int) (L:W64 i) :
  ∃ la lc,(∀ v:World,v.heap[b]?=W.heap[b]?->(Instr.lookup 184 (.map (some b)) (.int .i64 i) false).run Tryz.prog v=.ok (.slice la (Zt ns i).length lc) v)/\(Zt ns i).length<=lc/\lc<=9223372036854775807/\Zbh B w0 la (Zt ns i):=by
 obtain ⟨es,f,o,P⟩:=h
 by_cases hin:∃ n ∈ ns,n.id=i
 ·obtain ⟨n,hn,rfl⟩:=hin
  obtain ⟨j,M⟩:=List.getElem?_of_mem hn
  obtain ⟨la,lc,E,R,S,U⟩:=P j n M
  rw [Zmh u M]
  refine ⟨la,lc,fun v H=>(Jca (z:=.slice none 0 0) Zy3 (f.block H) n.id _ L (List.mem_of_getElem? E) fun p y e=>?_).2,R,S,U⟩
  obtain ⟨k,hk⟩:=List.getElem?_of_mem y
  have O:(es.map Prod.fst)[k]?=some n.id:=by rw [List.getElem?_map,hk];simp [e]
  have Q:(es.map Prod.fst)[j]?=some n.id:=by rw [List.getElem?_map,E];rfl
  have F:k=j:=(List.getElem?_inj (by simpa using (List.getElem?_eq_some_iff.1 hk).1) (by rw [o];exact u)).1 (O.trans Q.symm)
  subst F
  rw [hk] at E
  rw [Option.some.inj E]
 ·have A:∀ n ∈ ns,n.id≠i:=fun n hn e=>hin ⟨n,hn,e⟩
  rw [Zkv A]
  refine ⟨none,0,fun v H=>(Zwj (z:=.slice none 0 0) Zy3 Je1 (f.block H) i L fun p y e=>?_).2,Nat.le_refl _,by omega,.inl rfl⟩
  have:p.1 ∈ ns.map Zj.id:=by rw [<- o];exact List.mem_map_of_mem y
  obtain ⟨n,hn,e2⟩:=List.mem_map.1 this
  exact A n hn (e2.trans e)
end Go.Proofs.YthfilnflgahcjaaGreatDoor

namespace Go.Proofs.YthfilnflgahcjaaGreatDoor
open Go.RowKit Go.Shelf Go.Maps
set_option linter.all false
attribute [local go_sem] Oper.semAt_some
def Zr9 (vs:List (Zav × Int)) (p:Zav × Int):Zav:=(p.1.1,p.1.2.1,p.2,Zn p.1 vs)
structure Ztz (vs:List (Zav × Int)) (w:World) (f:Array MapEntry) (d b r:Nat) (wr:World) (v:Value) (seen:Array Nat) (c0:Nat) (done:List MapEntry) (D:List ((Zav) × Int)):Prop where
 it:wr.heap[r]?=some (.mapIter (some b) d seen c0)
 cl:d<=c0
 bw:Below w.heap.size w wr
 row:Jb 66 4 Zd3 (r+1) wr v (D.map (Zr9 vs))
 dn:D.map (fun p=>(Zfw p.1,Value.int .i64 p.2))=done.map (fun e=>(e.key,e.val))
 nd:done.Nodup
 sub:∀ x ∈ done,x ∈ f.toList
 has:∀ x ∈ f.toList,seen.contains x.born=true↔x ∈ done
def Zsa (le:Zav->Zav->Prop) (most:Nat):Prop:=∀ (W:World) (v:Value) (base:Nat) (xs:List (Zav)),base<=W.heap.size->xs.length<=most->Jb 66 4 Zd3 base W v xs->Calls Tryz.prog 128 #[v,.func (.func 99) #[] #[]] W fun e w'=>e=.returned (.tuple #[])/\∃ ys,ys.Perm xs/\ys.Pairwise le/\Jb 66 4 Zd3 base w' v ys/\Below base W w'
set_option maxRecDepth 100000 in
set_option maxHeartbeats 8000000 in
theorem Zvq {le:Zav->Zav->Prop} {most:Nat} (a0:Zsa le most) (c3:most<=900000) {w:World} {b:Nat} {cs:List ((Zav) × Int)} (h:MC Zfw okK w b cs) (hl:cs.length<=most) (bx m:Nat) (vs:List (Zav × Int)) (F:Rec w bx #[.map (some m)] 157) (a6:MC Zfw okK w m vs) (b6:(vs.map Prod.fst).Nodup) (hz:∀ p ∈ cs,p.1.2.2=(0,0)) :
  Calls Tryz.prog 98 #[.map (some b),.func (.func 97) #[] #[.pointer (some ⟨bx,0,none⟩)],.func (.func 99) #[] #[]] w fun e w'=>∃ v L,e=.returned v/\L.Perm (cs.map (Zr9 vs))/\L.Pairwise le/\Jb 66 4 Zd3 w.heap.size w' v L/\Below w.heap.size w w':=by
 have a1:=MG.lt h
 obtain ⟨f,d,hb,B,X,N⟩:=h
 have c1:Hid (∀ p ∈ cs,okK p.1):=fun p hp=>X (p.1,.int .i64 p.2) (List.mem_map.2 ⟨p,hp,rfl⟩)
 have HZ:=Za hz
 have a8:Hid (∀ (s t:ByteArray) (z:Int),okK (s,t,0,0)->∀ W,Below w.heap.size w W->Calls Tryz.prog 97 #[.agg #[.string s,.string t,.int .i64 0,.int .i64 0],.int .i64 z,.pointer (some ⟨bx,0,none⟩)] W fun e w'=>e=.returned (.agg #[.string s,.string t,.int .i64 z,.int .i64 (Zn (s,t,0,0) vs)])/\Below W.heap.size W w'):=fun s t z hk W hb=>by
  have b2:=MG.lt a6
  have c6:MC Zfw okK W m vs:=MG.block a6 (hb.block m b2)
  exact Jdr s t z _ bx m W (F.below hb F.lt) (fun W' h'=>by
   obtain ⟨_,_,_,q1,_⟩:=Zhn Jeu Jcj (MG.block c6 h':MC Zfw okK W' m vs) b6 (s,t,0,0) hk 1
   exact q1) (Nat.lt_of_lt_of_le b2 hb.size)
 clear hz F a6 b6
 have hn:f.size=cs.length:=by have:=congrArg List.length B;simpa using this
 have b0:Hid (∀ x ∈ f.toList,∃ p ∈ cs,x.key=Zfw p.1/\x.val=.int .i64 p.2):=fun x C=>by
  have o:(x.key,x.val) ∈ f.toList.map (fun e=>(e.key,e.val)):=List.mem_map.2 ⟨x,C,rfl⟩
  rw [B] at o
  obtain ⟨q,hq,e⟩:=List.mem_map.1 o
  obtain ⟨p,hp,rfl⟩:=List.mem_map.1 hq
  obtain ⟨e1,e2⟩:=Prod.mk.inj e
  exact ⟨p,hp,e1.symm,e2.symm⟩
 have c5:Hid (f.toList.map (fun e=>(e.key,e.val))=cs.map (fun p=>(Zfw p.1,Value.int .i64 p.2))):=by
  show _=_
  rw [B,List.map_map];rfl
 have b9:Hid (f.toList.Nodup):=by
  have:=N.2.1
  rw [List.nodup_iff_pairwise_ne] at *
  exact (List.pairwise_map.1 this).imp fun h e=>h (by rw [e])
 have a4:Hid (∀ x ∈ f.toList,∀ y ∈ f.toList,x.born=y.born->x=y):=fun x C y K e=>by
  obtain ⟨i,hi⟩:=List.getElem?_of_mem C
  obtain ⟨j,hj⟩:=List.getElem?_of_mem K
  have:=(List.getElem?_inj (l:=f.toList.map (·.born)) (by simpa using (List.getElem?_eq_some_iff.1 hi).1) N.2.1 (i:=i) (j:=j)).1 (by rw [List.getElem?_map,List.getElem?_map,hi,hj,Option.map_some,Option.map_some,e])
  subst this
  rw [hi] at hj
  exact Option.some.inj hj
 have a9:Hid (∀ done:List MapEntry,done.Nodup->(∀ x ∈ done,x ∈ f.toList)->done.length<=most):=fun done o h2=>by
  have:=Zdi o h2
  simp only [Array.length_toList] at this
  omega
 have b1:=Za N
 have HB:=Za hb
 have c2:=Za hl
 clear B X N hn hb hl
 go_enter Tryz.func98,Tryz.ntmps98
 have c9:=run_range_map (P:=Tryz.prog) w 157 66 2 b f d (by kernel_rfl) HB.out
 go_wp2_with fail
 go_loopw [7] (fun v wr=>∃ seen c0 done D,Ztz vs w f d b w.heap.size wr v seen c0 done D) (fun _ wr=>wr.rangeLeft b w.heap.size)
 case atStart =>
  exact ⟨#[],d,[],[],World.alloc_heap_new _ _,Nat.le_refl _,(Below.refl _ _).alloc (Nat.le_refl _) _,Jo _ _ _ _ _,rfl,List.nodup_nil,fun x C=>by simp at C,fun x C=>by simp⟩
 case round =>
  obtain ⟨seen,c0,done,D,n⟩:=hrel
  have HC:=Za n
  have k:wr.heap[b]?=some (.map f d):=(n.bw.block b a1).trans HB.out
  rcases run_next_at (P:=Tryz.prog) wr 0 w.heap.size b d c0 seen f d n.it k b1.out.1 n.cl with ⟨h0,a7⟩ | ⟨x,C,w1,E,a7⟩
  ·have HF:Hid ((D.map (Zr9 vs)).Perm (cs.map (Zr9 vs))):=by
    have hp:done.Perm f.toList:=(List.perm_ext_iff_of_nodup n.nd b9.out).2 fun x=>⟨n.sub x,fun C=>(n.has x C).1 (all_seen f seen h0 x C)⟩
    have o:=hp.map (fun e=>(e.key,e.val))
    rw [<- n.dn,c5.out] at o
    exact (Zee Zzp o).map _
   have Y:(D.map (Zr9 vs)).length<=most:=by rw [HF.out.length_eq,List.length_map];exact c2.out
   have HS:=Za (a0 wr _ (w.heap.size+1) _ (by have:=(Array.getElem?_eq_some_iff.1 n.it).1;omega) Y n.row)
   have c4:=Za n.bw
   clear n HC k h0 Y
   go_wp2_with (go_at_call 128;refine HS.out.mono ?_;rintro e W3 ⟨rfl,ys,y1,y2,y3,y4⟩;have HY:=Za (And.intro y1 (And.intro y2 (And.intro y3 y4)));clear y1 y2 y3 y4)
   go_ret
   obtain ⟨y1,y2,y3,y4⟩:=HY.out
   exact ⟨_,ys,rfl,y1.trans HF.out,y2,y3.base (by omega),c4.out.trans (y4.mono (by omega))⟩
  ·obtain ⟨M,b5⟩:=mem_left C
   obtain ⟨⟨⟨s,t,p,q⟩,z⟩,a5,ek,ev⟩:=b0.out x M
   obtain ⟨rfl,rfl⟩:p=0/\q=0:=by have:=HZ.out _ a5;simpa using this
   have b7:Hid (okK (s,t,0,0)):=c1.out _ a5
   simp only [Zfw] at ek ev
   obtain ⟨U,hU⟩:∃ V,Go.ChangeMaps.setBlock w1 w.heap.size (.mapIter (some b) d (seen.push x.born) d)=V:=⟨_,rfl⟩
   rw [hU,ek,ev] at a7
   have S:w1.heap[w.heap.size]?=some (.mapIter (some b) d seen c0):=by rcases E with rfl | rfl<;>exact n.it
   have G:=MapKept.heap_set (o':=.mapIter (some b) d (seen.push x.born) d) S
   have a2:∀ q,q≠w.heap.size->U.heap[q]?=wr.heap[q]?:=fun q hq=>by
    rw [<- hU]
    have:w1.heap[q]?=wr.heap[q]?:=by rcases E with rfl | rfl<;>rfl
    exact (G.2 q hq).trans this
   have b4:U.heap.size=wr.heap.size:=by
    rw [<- hU]
    have:w1.heap.size=wr.heap.size:=by rcases E with rfl | rfl<;>rfl
    simp [Go.ChangeMaps.setBlock,this]
   have Q:U.heap[w.heap.size]?=some (.mapIter (some b) d (seen.push x.born) d):=by rw [<- hU];exact G.1
   have O:U.os=wr.os/\U.tape=wr.tape/\U.output=wr.output:=by
    rw [<- hU]
    rcases E with rfl | rfl<;>exact ⟨rfl,rfl,rfl⟩
   have a3:Below w.heap.size w U:=⟨O.1.trans n.bw.os,O.2.1.trans n.bw.tape,O.2.2.trans n.bw.output,by rw [b4];exact n.bw.size,fun q hq=>(a2 q (by omega)).trans (n.bw.block q hq)⟩
   have c8:=run_entry_at (P:=Tryz.prog) U w.heap.size b d seen f d x Q ((a3.block b a1).trans HB.out) M b1.out.2.1
   rw [ek,ev] at c8
   have b3:Jb 66 4 Zd3 (w.heap.size+1) U _ (D.map (Zr9 vs)):=n.row.keep fun g hg _=>a2 g (by omega)
   have H:(leftOf f (seen.push x.born)).size<(leftOf f seen).size:=left_shrinks f seen x C
   have A:wr.rangeLeft b w.heap.size=(leftOf f seen).size:=by simp only [World.rangeLeft,k,n.it]
   have T:w.heap.size<U.heap.size:=(Array.getElem?_eq_some_iff.1 Q).1
   have b8:D.length<=most:=by
    have o:=congrArg List.length n.dn
    simp only [List.length_map] at o
    rw [o];exact a9.out done n.nd n.sub
   have HA:Hid (Below U.heap.size U (U.alloc (.cells #[.string s,.string t,.int .i64 0,.int .i64 0] 66))):=(Below.refl _ _).alloc (Nat.le_refl _) _
   have HU:=Za (And.intro Q (And.intro a3 (And.intro b3 (And.intro T b8))))
   have HX:=Za (And.intro M (And.intro b5 (And.intro ek ev)))
   have HM:=Za (And.intro H A)
   clear n k hU S G a2 b4 Q O a3 M b5 ek ev C E H A a5 b3 T b8
   go_wp2_with (first
    | (go_at_call 97;refine (a8.out s t z b7.out _ (HU.out.2.1.trans (HA.out.mono (by have:=HU.out.2.2.2.1;omega)))).mono ?_;rintro e W2 ⟨rfl,k⟩
       obtain ⟨v6,W6,p1,p2,p3,p4⟩:=Jd (ty:=31) (c:=1) (bl:=W2.heap.size) (off:=0) (x:=(s,t,z,Zn (s,t,0,0) vs)) Zts (fun x=>rfl) Zoa (((HU.out.2.2.1.below HA.out).below k).below ((Below.refl _ _).alloc (Nat.le_refl _) (.cells #[.string s,.string t,.int .i64 z,.int .i64 (Zn (s,t,0,0) vs)] 66))) (fun jj u hu=>by
        rw [Nat.zero_add]
        exact Zh _ _ _ _ _ (by simpa [Zd3] using hu)) (by rw [List.length_map];have:=HU.out.2.2.2.2;omega) (by have o:=HU.out.2.2.2.1;have h2:=HA.out.size;have h3:=k.size;simp;omega)
       have HP:=Za (And.intro p2 (And.intro p3 k))
       clear p2 p3 p4 k)
    | (at_builtin;refine Lib.wpList_append_run _ rfl _ _ _ _ rfl _ _ rfl rfl _ _ p1 ?_))
   have I:Hid (Ztz vs w f d b w.heap.size W6 v6 (seen.push x.born) d (done++[x]) (D++[((s,t,0,0),z)])):=by
    obtain ⟨p2,p3,k⟩:=HP.out
    obtain ⟨u1,u2,u3,u4,u5⟩:=HU.out
    have R:Below (w.heap.size+1) U W6:=(((HA.out.mono (by omega)).trans (k.mono (by have:=HA.out.size;omega))).trans (((Below.refl _ _).alloc (Nat.le_refl _) _:Below W2.heap.size W2 (W2.alloc (.cells #[.string s,.string t,.int .i64 z,.int .i64 (Zn (s,t,0,0) vs)] 66))).mono (by have:=HA.out.size;have:=k.size;omega))).trans p3
    refine ⟨(R.block _ (by omega)).trans u1,Nat.le_refl _,u2.trans (R.mono (by omega)),?_,?_,?_,?_,?_⟩
    ·rw [List.map_append];exact p2
    ·rw [List.map_append,List.map_append,HC.out.dn]
     simp [Zfw,HX.out.2.2.1,HX.out.2.2.2]
    ·refine List.nodup_append.2 ⟨HC.out.nd,by simp,fun a ha c hc=>?_⟩
     simp only [List.mem_singleton] at hc
     subst hc
     intro e
     subst e
     have:=(HC.out.has _ HX.out.1).2 ha
     rw [HX.out.2.1] at this
     cases this
    ·intro y K
     rcases List.mem_append.1 K with K | K
     ·exact HC.out.sub y K
     ·rw [List.mem_singleton.1 K];exact HX.out.1
    ·intro y K
     rw [contains_push]
     simp only [Bool.or_eq_true,HC.out.has y K,beq_iff_eq,List.mem_append,List.mem_singleton]
     constructor
     ·rintro (o | o)
      ·exact .inl o
      ·exact .inr (a4.out y K x HX.out.1 o)
     ·rintro (o | o)
      ·exact .inl o
      ·exact .inr (by rw [o])
   go_roundw
   case rel=>exact ⟨_,_,_,_,I.out⟩
   case measure =>
    have o:W6.rangeLeft b w.heap.size=(leftOf f (seen.push x.born)).size:=by
     have c7:W6.heap[b]?=some (.map f d):=(I.out.bw.block b a1).trans HB.out
     simp only [World.rangeLeft,c7,I.out.it]
    rw [o,HM.out.2]
    exact HM.out.1
end Go.Proofs.YthfilnflgahcjaaGreatDoor

namespace Go.Proofs.YthfilnflgahcjaaGreatDoor
open Go.RowKit Go.Shelf Go.Maps
set_option linter.all false
abbrev Zen:=List ByteArray × ByteArray × ByteArray
def Zgi (s:List ByteArray × List Zhl) (x:Zen):List ByteArray × List Zhl:=(Zdz x.2.2 s.1,s.2++x.1.map fun l=>((l,x.2.1,0,0),(Zbm x.2.2 s.1:Int)))
def Zci (f:List Zen):List ByteArray × List Zhl:=f.foldl Zgi ([],[])
theorem Zqm (f:List Zen) (x:Zen):Zci (f++[x])=Zgi (Zci f) x:=by simp [Zci]
def Zju:List Zen->Nat
 | []=>0
 | x::r=>x.1.length+Zju r
theorem Zcw:∀ (a b:List Zen),Zju (a++b)=Zju a+Zju b
 | [],b=>by simp [Zju]
 | x::r,b=>by simp only [List.cons_append,Zju,Zcw r b];omega
theorem Zym (t:ByteArray) (ts:List ByteArray):(Zdz t ts).length<=ts.length+1:=by
 unfold Zdz
 split<;>simp
theorem Zlo {t:ByteArray} {ts:List ByteArray} (h:ts.Nodup):(Zdz t ts).Nodup:=by
 by_cases hm:t ∈ ts
 ·rw [Zgl hm];exact h
 ·rw [Zgm hm]
  exact List.nodup_append.2 ⟨h,by simp,fun a ha c B=>by simp only [List.mem_singleton] at B;subst B;exact fun e=>hm (e▸ha)⟩
theorem Zdg (f:List Zen):(Zci f).1.Nodup/\(Zci f).1.length<=f.length/\(Zci f).2.length=Zju f/\(∀ x ∈ (Zci f).2,x.1.2.2=(0,0)):=by
 unfold Zci
 suffices h:∀ (f:List Zen) (s:List ByteArray × List Zhl),s.1.Nodup->(∀ x ∈ s.2,x.1.2.2=(0,0))->(f.foldl Zgi s).1.Nodup/\(f.foldl Zgi s).1.length<=s.1.length+f.length/\(f.foldl Zgi s).2.length=s.2.length+Zju f/\(∀ x ∈ (f.foldl Zgi s).2,x.1.2.2=(0,0)) by
  have:=h f ([],[]) List.nodup_nil (by simp)
  simpa using this
 intro f
 induction f with
 | nil=>intro s o u;exact ⟨o,by simp,by simp [Zju],u⟩
 | cons x r ih =>
  intro s o u
  obtain ⟨a,b,c,d⟩:=ih (Zgi s x) (Zlo o) (by
   intro y v
   rcases List.mem_append.1 v with v | v
   ·exact u y v
   ·obtain ⟨l,_,rfl⟩:=List.mem_map.1 v
    rfl)
  refine ⟨a,?_,?_,d⟩
  ·have:=Zym x.2.2 s.1
   have e:(Zgi s x).1=Zdz x.2.2 s.1:=rfl
   rw [e] at b
   simp only [List.foldl_cons,List.length_cons];omega
  ·have e:(Zgi s x).2.length=s.2.length+x.1.length:=by simp [Zgi]
   rw [List.foldl_cons,c,e,Zju];omega
def Zbs (tx:Zd->ByteArray) (ls:List ByteArray) (p:ByteArray × Zd):Zen:=(ls,p.1,tx p.2)
def Zq (tx:Zd->ByteArray) (ns:List Zj):List Zen:=ns.flatMap fun n=>n.props.map (Zbs tx n.labels)
theorem Zm5 {tx:Zd->ByteArray} {ns:List Zj} {j:Nat} {x:Zj} (h:ns[j]?=some x):Zq tx (ns.take (j+1))=Zq tx (ns.take j)++x.props.map (Zbs tx x.labels):=by
 unfold Zq
 rw [List.take_add_one,h,List.flatMap_append]
 simp
theorem Zvw {tx:Zd->ByteArray} {ns:List Zj} {j:Nat} {x:Zj} (h:ns[j]?=some x):(Zq tx (ns.take j)).length+x.props.length<=(Zq tx ns).length/\Zju (Zq tx (ns.take j))+Zju (x.props.map (Zbs tx x.labels))<=Zju (Zq tx ns):=by
 have o:Zq tx ns=Zq tx (ns.take (j+1))++Zq tx (ns.drop (j+1)):=by
  unfold Zq
  rw [<- List.flatMap_append,List.take_append_drop]
 rw [o,Zm5 h]
 simp only [List.length_append,List.length_map,Zcw];omega
theorem Zyn {f:List Zen} {k:Nat} {x:Zen} (h:f[k]?=some x):Zju (f.take k)+x.1.length<=Zju f:=by
 have o:f=f.take (k+1)++f.drop (k+1):=(List.take_append_drop _ _).symm
 have u:f.take (k+1)=f.take k++[x]:=by rw [List.take_add_one,h];rfl
 have C:=congrArg Zju o
 rw [Zcw,u,Zcw] at C
 simp only [Zju] at C
 omega
def Zds (q:List Zhl):List (Zav × Int):=Jc ((cnt q).map fun p=>(p.1.1,p.2))
def Zbv (q:List Zhl):List (Zav × Int):=Jc ((cnt q).map fun p=>(p.1.1,(1:Int)))
def Zom (q:List Zhl):List Zav:=(Zds q).map (Zr9 (Zbv q))
structure KcI (w:World) (bx m:Nat) (s:List ByteArray × List Zhl) (wr:World):Prop where
 bw:Below w.heap.size w wr
 rb:Rec wr bx #[.map (some m)] 187
 mt:MG Zke okS wr m (Zbt s.1 0)
 mw:MC Zpf okW wr (w.heap.size+1) (cnt s.2)
theorem KcI.below {w wr wr':World} {bx m:Nat} {s:List ByteArray × List Zhl} (h:KcI w bx m s wr) (hb:Below wr.heap.size wr wr'):KcI w bx m s wr' :=
 ⟨Below.on h.bw hb,h.rb.below hb h.rb.lt,MG.block h.mt (hb.block _ (MG.lt h.mt)),MG.block h.mw (hb.block _ (MG.lt h.mw))⟩
structure KdI (w:World) (Z:Nat) (D:List (Zhl × Int)) (wr:World):Prop where
 bw:Below w.heap.size w wr
 rb:Rec wr (Z+2) #[.map (some (Z+1))] 157
 mn:MC Zfw okK wr Z (Jc (D.map fun p=>(p.1.1,p.2)))
 mv:MC Zfw okK wr (Z+1) (Jc (D.map fun p=>(p.1.1,(1:Int))))
theorem KdI.below {w wr wr':World} {Z:Nat} {D:List (Zhl × Int)} (h:KdI w Z D wr) (hb:Below wr.heap.size wr wr'):KdI w Z D wr' :=
 ⟨Below.on h.bw hb,h.rb.below hb h.rb.lt,MG.block h.mn (hb.block _ (MG.lt h.mn)),MG.block h.mv (hb.block _ (MG.lt h.mv))⟩
theorem Jbs (x y:Zhl) (h:Zpf x=Zpf y):x=y:=Jir.inj x y h
theorem Zyo {vs z:List (Zav × Int)} (h:∀ x,Zn x vs=Zn x z):Zr9 vs=Zr9 z:=by
 funext p
 simp only [Zr9,h]
structure Jgc (w:World) (A:Array MapEntry) (g b r Z:Nat) (wr:World) (seen:Array Nat) (c0:Nat) (done:List MapEntry) (D:List (Zhl × Int)):Prop where
 it:wr.heap[r]?=some (.mapIter (some b) g seen c0)
 cl:g<=c0
 i:KdI w Z D wr
 hb:wr.heap[b]?=some (.map A g)
 dn:D.map (fun p=>(Zpf p.1,Value.int .i64 p.2))=done.map (fun e=>(e.key,e.val))
 nd:done.Nodup
 sub:∀ x ∈ done,x ∈ A.toList
 has:∀ x ∈ A.toList,seen.contains x.born=true↔x ∈ done
end Go.Proofs.YthfilnflgahcjaaGreatDoor

