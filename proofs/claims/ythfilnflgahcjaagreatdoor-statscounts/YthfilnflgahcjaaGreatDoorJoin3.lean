/- The keys of the maps: texts, labels, types, ends, keys, joints, worths. Sets of keys: one put in, looked up, taken out; how many there are. Numbers that are cut, added, shared, multiplied. Regions that draw their order, whose operations and callees leave what was there: one walk in the text's order serves every order. Regions that draw their order: what only reads may be taken first, what makes memory of its own is taken as it stands. The same as a walk: what only reads, in the text's order; then what makes memory, one by one. -/
import Derived.Test.YthfilnflgahcjaaGreatDoorJoin2
import Derived.DeepKeys4
import Derived.StringKeys
import Derived.Test.YthfilnflgahcjaaGreatDoorJoin1
import Derived.Below
import Derived.BigQuiet
import Derived.WalkKit
import Derived.OrdersHeld
namespace Go.Proofs.YthfilnflgahcjaaGreatDoor
open Go.RowKit Go.Shelf Go.Maps
set_option linter.all false
theorem Zg0:laidOutB Tryz.prog=true:=by kernel_rfl
theorem Zat:Tryz.prog.types.size=314:=by kernel_rfl
theorem Zgj:Tryz.prog.cellsOf 9=1:=by kernel_rfl
theorem Zeo:Tryz.prog.cellsOf 2=1:=by kernel_rfl
theorem Jcy:Tryz.prog.cellsOf 3=1:=by kernel_rfl
theorem Zm6:Tryz.prog.cellsOf 4=1:=by kernel_rfl
def W64 (n:Int):Prop:=(Lit.int .i64 n).wf=true
theorem w64 {n:Int} (o:-9223372036854775808<=n) (k:n<=9223372036854775807):W64 n:=by
 unfold W64 Lit.wf
 simp [IntKind.min,IntKind.max,IntKind.bits,IntKind.signed];omega
theorem Jh4:WideMaps.KeyLaw Tryz.prog 42:=deep_law_laid Zg0 (m:=2) (by omega) (by rw [Zat];decide) (by kernel_rfl) (by kernel_rfl)
theorem Zyr:Tryz.prog.cellsOf 42=2:=by kernel_rfl
theorem Jh5 (b:ByteArray) (a:Int) (c:b.size<=maxLen) (f:W64 a):∃ l,keyOf Tryz.prog 42 (.agg #[.string b,.int .i64 a])=some l:=by
 have e:∀ d,Tryz.prog.keyLits (d+2) 42 [.string b,.int .i64 a]=some [.string b.data.toList,.int .i64 a]:=by
  intro d
  unfold Program.keyLits
  unfold W64 at *
  simp [Tryz.underlying42,Zyr,Program.keyLits,Tryz.underlying9,Tryz.underlying2,Tryz.underlying4,Zgj,Zeo,Zm6,c,f]
 unfold keyOf
 rw [Tryz.underlying42]
 dsimp only
 rw [if_pos (by rw [show Tryz.prog.keyType 42=true by kernel_rfl];simp [Value.formed,Tryz.underlying42,Zyr]),Zat]
 exact ⟨_,by rw [show (Value.agg #[.string b,.int .i64 a]).cells.toList=[.string b,.int .i64 a] from rfl,show 314+1=313+2 from rfl,e];rfl⟩
theorem Jh6:WideMaps.KeyLaw Tryz.prog 62:=deep_law_laid Zg0 (m:=2) (by omega) (by rw [Zat];decide) (by kernel_rfl) (by kernel_rfl)
theorem Zys:Tryz.prog.cellsOf 62=2:=by kernel_rfl
theorem Jh7 (b:ByteArray) (a:Int) (c:b.size<=maxLen) (f:W64 a):∃ l,keyOf Tryz.prog 62 (.agg #[.string b,.int .i64 a])=some l:=by
 have e:∀ d,Tryz.prog.keyLits (d+2) 62 [.string b,.int .i64 a]=some [.string b.data.toList,.int .i64 a]:=by
  intro d
  unfold Program.keyLits
  unfold W64 at *
  simp [Tryz.underlying62,Zys,Program.keyLits,Tryz.underlying9,Tryz.underlying2,Tryz.underlying4,Zgj,Zeo,Zm6,c,f]
 unfold keyOf
 rw [Tryz.underlying62]
 dsimp only
 rw [if_pos (by rw [show Tryz.prog.keyType 62=true by kernel_rfl];simp [Value.formed,Tryz.underlying62,Zys]),Zat]
 exact ⟨_,by rw [show (Value.agg #[.string b,.int .i64 a]).cells.toList=[.string b,.int .i64 a] from rfl,show 314+1=313+2 from rfl,e];rfl⟩
theorem Jh8:WideMaps.KeyLaw Tryz.prog 64:=deep_law_laid Zg0 (m:=2) (by omega) (by rw [Zat];decide) (by kernel_rfl) (by kernel_rfl)
theorem Zyt:Tryz.prog.cellsOf 64=4:=by kernel_rfl
theorem Jh9 (b:ByteArray) (a:ByteArray) (g:Bool) (h:Int) (c:b.size<=maxLen) (f:a.size<=maxLen) (i:W64 h):∃ l,keyOf Tryz.prog 64 (.agg #[.string b,.string a,.bool g,.int .i64 h])=some l:=by
 have e:∀ d,Tryz.prog.keyLits (d+2) 64 [.string b,.string a,.bool g,.int .i64 h]=some [.string b.data.toList,.string a.data.toList,.bool g,.int .i64 h]:=by
  intro d
  unfold Program.keyLits
  unfold W64 at *
  simp [Tryz.underlying64,Zyt,Program.keyLits,Tryz.underlying9,Tryz.underlying2,Tryz.underlying4,Zgj,Zeo,Zm6,c,f,i]
 unfold keyOf
 rw [Tryz.underlying64]
 dsimp only
 rw [if_pos (by rw [show Tryz.prog.keyType 64=true by kernel_rfl];simp [Value.formed,Tryz.underlying64,Zyt]),Zat]
 exact ⟨_,by rw [show (Value.agg #[.string b,.string a,.bool g,.int .i64 h]).cells.toList=[.string b,.string a,.bool g,.int .i64 h] from rfl,show 314+1=313+2 from rfl,e];rfl⟩
theorem Jia:WideMaps.KeyLaw Tryz.prog 66:=deep_law_laid Zg0 (m:=2) (by omega) (by rw [Zat];decide) (by kernel_rfl) (by kernel_rfl)
theorem Zon:Tryz.prog.cellsOf 66=4:=by kernel_rfl
theorem Jib (b:ByteArray) (a:ByteArray) (g:Int) (h:Int) (c:b.size<=maxLen) (f:a.size<=maxLen) (j:W64 g) (i:W64 h):∃ l,keyOf Tryz.prog 66 (.agg #[.string b,.string a,.int .i64 g,.int .i64 h])=some l:=by
 have e:∀ d,Tryz.prog.keyLits (d+2) 66 [.string b,.string a,.int .i64 g,.int .i64 h]=some [.string b.data.toList,.string a.data.toList,.int .i64 g,.int .i64 h]:=by
  intro d
  unfold Program.keyLits
  unfold W64 at *
  simp [Tryz.underlying66,Zon,Program.keyLits,Tryz.underlying9,Tryz.underlying2,Tryz.underlying4,Zgj,Zeo,Zm6,c,f,j,i]
 unfold keyOf
 rw [Tryz.underlying66]
 dsimp only
 rw [if_pos (by rw [show Tryz.prog.keyType 66=true by kernel_rfl];simp [Value.formed,Tryz.underlying66,Zon]),Zat]
 exact ⟨_,by rw [show (Value.agg #[.string b,.string a,.int .i64 g,.int .i64 h]).cells.toList=[.string b,.string a,.int .i64 g,.int .i64 h] from rfl,show 314+1=313+2 from rfl,e];rfl⟩
theorem Jge:WideMaps.KeyLaw Tryz.prog 183:=deep_law_laid Zg0 (m:=2) (by omega) (by rw [Zat];decide) (by kernel_rfl) (by kernel_rfl)
theorem Zt7:Tryz.prog.cellsOf 183=3:=by kernel_rfl
theorem Jgf (b:Int) (a:ByteArray) (g:Bool) (c:W64 b) (f:a.size<=maxLen):∃ l,keyOf Tryz.prog 183 (.agg #[.int .i64 b,.string a,.bool g])=some l:=by
 have e:∀ d,Tryz.prog.keyLits (d+2) 183 [.int .i64 b,.string a,.bool g]=some [.int .i64 b,.string a.data.toList,.bool g]:=by
  intro d
  unfold Program.keyLits
  unfold W64 at *
  simp [Tryz.underlying183,Zt7,Program.keyLits,Tryz.underlying9,Tryz.underlying2,Tryz.underlying4,Zgj,Zeo,Zm6,c,f]
 unfold keyOf
 rw [Tryz.underlying183]
 dsimp only
 rw [if_pos (by rw [show Tryz.prog.keyType 183=true by kernel_rfl];simp [Value.formed,Tryz.underlying183,Zt7]),Zat]
 exact ⟨_,by rw [show (Value.agg #[.int .i64 b,.string a,.bool g]).cells.toList=[.int .i64 b,.string a,.bool g] from rfl,show 314+1=313+2 from rfl,e];rfl⟩
end Go.Proofs.YthfilnflgahcjaaGreatDoor

namespace Go.Proofs.YthfilnflgahcjaaGreatDoor
open Go.RowKit Go.Shelf Go.Maps
set_option linter.all false
set_option linter.unusedSectionVars false
section
variable {α:Type} [DecidableEq α] {kt:TypeId} {enc:α->Value} {ok:α->Prop}
def MS (enc:α->Value) (ok:α->Prop) (w:World) (b:Nat) (ks:List α):Prop:=MG enc ok w b (ks.map fun k=>(k,.agg #[]))
theorem MS.block {w w':World} {b:Nat} {ks:List α} (h:MS enc ok w b ks) (hb:w'.heap[b]?=w.heap[b]?):MS enc ok w' b ks:=MG.block h hb
theorem MS.lt {w:World} {b:Nat} {ks:List α} (h:MS enc ok w b ks):b<w.heap.size:=MG.lt h
def Zhs (l:List α) (k:α):List α:=if k ∈ l then l else l++[k]
theorem Zvy {l:List α} (h:l.Nodup) (k:α):(Zhs l k).Nodup:=by
 unfold Zhs
 split
 ·exact h
 ·rename_i hn
  exact List.nodup_append.2 ⟨h,by simp,fun a ha c v=>by simp only [List.mem_singleton] at v;subst v;exact fun e=>hn (e▸ha)⟩
theorem Jgh {l:List α} (hl:l.Nodup) {j:Nat} {k:α} (d:l[j]?=some k):∀ i p,(l.map fun k=>(k,Value.agg #[]))[i]?=some p->p.1=k->i=j:=fun i p y g=>by
 rw [List.getElem?_map] at y
 obtain ⟨x,n,rfl⟩:=Option.map_eq_some_iff.1 y
 refine (List.getElem?_inj (l:=l) (List.getElem?_eq_some_iff.1 n).1 hl).1 ?_
 rw [n,d];exact congrArg some g
theorem Zuc (T:Znc kt enc ok) {t e:TypeId} (ht:Tryz.prog.underlying t=some (.map kt e)) {w:World} {b:Nat} {ks:List α} (h:MS enc ok w b ks) (nd:ks.Nodup) (k:α) (hk:ok k) :
  ∃ w',(Instr.mapUpdate t (.map (some b)) (enc k) (.agg #[])).run Tryz.prog w=.ok () w'/\MS enc ok w' b (Zhs ks k)/\w'.heap.size=w.heap.size/\(∀ i,i≠b->w'.heap[i]?=w.heap[i]?)/\Below b w w':=by
 unfold Zhs
 by_cases hm:k ∈ ks
 ·rw [if_pos hm]
  obtain ⟨j,d⟩:=List.getElem?_of_mem hm
  obtain ⟨w',o,f,q⟩:=Zy8 T ht h j k (.agg #[]) (.agg #[]) hk (by rw [List.getElem?_map,d];rfl) (Jgh nd d)
  refine ⟨w',o,?_,q⟩
  have:(ks.map fun k=>(k,Value.agg #[])).set j (k,.agg #[])=ks.map fun k=>(k,Value.agg #[]):=WideElems.set_self _ _ _ (by rw [List.getElem?_map,d];rfl)
  rw [this] at f
  exact f
 ·rw [if_neg hm]
  obtain ⟨w',o,f,q⟩:=Zy7 T ht h k (.agg #[]) hk (fun p g=>by
   obtain ⟨x,n,rfl⟩:=List.mem_map.1 g
   exact fun e=>hm (e▸n))
  exact ⟨w',o,by unfold MS;rw [List.map_append];exact f,q⟩
theorem Jek (T:Znc kt enc ok) {t e:TypeId} (ht:Tryz.prog.underlying t=some (.map kt e)) (u:∀ w,(zeroValue e).run Tryz.prog w=.ok (.agg #[]) w) {w:World} {b:Nat} {ks:List α} (h:MS enc ok w b ks) (k:α) (hk:ok k) :
  (Instr.lookup t (.map (some b)) (enc k) true).run Tryz.prog w=.ok (.tuple #[.agg #[],.bool (decide (k ∈ ks))]) w:=by
 by_cases hm:k ∈ ks
 ·rw [decide_eq_true hm]
  exact (Zuj (z:=.agg #[]) T ht h k (.agg #[]) hk (List.mem_map.2 ⟨k,hm,rfl⟩) (fun p g _=>by obtain ⟨x,n,rfl⟩:=List.mem_map.1 g;rfl)).1
 ·rw [decide_eq_false hm]
  exact (Zsx T ht u h k hk (fun p g=>by
   obtain ⟨x,n,rfl⟩:=List.mem_map.1 g
   exact fun e=>hm (e▸n))).1
theorem Zkl (T:Znc kt enc ok) {t e:TypeId} (ht:Tryz.prog.underlying t=some (.map kt e)) (u:∀ w,(zeroValue e).run Tryz.prog w=.ok (.agg #[]) w) {w:World} {b:Nat} {ks:List α} (h:MS enc ok w b ks) (k:α) (hk:ok k) (z:Bool) (hm:z=true↔k ∈ ks) :
  (Instr.lookup t (.map (some b)) (enc k) true).run Tryz.prog w=.ok (.tuple #[.agg #[],.bool z]) w:=by
 have:=Jek T ht u h k hk
 rw [this]
 cases z with
 | true=>rw [decide_eq_true (hm.1 rfl)]
 | false=>rw [decide_eq_false (fun h=>by have:=hm.2 h;cases this)]
def Zl8 (k:α):List α->List α
 | []=>[]
 | a::r=>if a=k then r else a::Zl8 k r
theorem Zud (k:α):∀ (l:List α),(Zl8 k l).Sublist l
 | []=>List.Sublist.refl _
 | a::r=>by
  rw [Zl8]
  split
  ·exact List.sublist_cons_self _ _
  ·exact (Zud k r).cons_cons a
theorem Zg2 {l:List α} (h:l.Nodup) (k:α):(Zl8 k l).Nodup:=h.sublist (Zud k l)
theorem Zg3 {k:α}:∀ {l:List α},k ∈ l->(Zl8 k l).length+1=l.length
 | [],h=>by simp at h
 | a::r,h=>by
  rw [Zl8]
  split
  ·rfl
  ·rename_i m
   have:=Zg3 (k:=k) (l:=r) (by rcases List.mem_cons.1 h with rfl | h;exact absurd rfl m;exact h)
   simp only [List.length_cons];omega
theorem Zqv {k:α}:∀ {l:List α} {j:Nat},l.Nodup->l[j]?=some k->l.eraseIdx j=Zl8 k l
 | [],j,_,h=>by simp at h
 | a::r,0,_,h=>by simp at h;subst h;simp [Zl8]
 | a::r,j+1,hn,h=>by
  simp only [List.nodup_cons] at hn
  simp only [List.getElem?_cons_succ] at h
  have m:a≠k:=fun e=>hn.1 (e▸List.mem_of_getElem? h)
  rw [List.eraseIdx_cons_succ,Zl8,if_neg m,Zqv hn.2 h]
theorem Zue (T:Znc kt enc ok) {t e ty:TypeId} (ht:Tryz.prog.underlying t=some (.map kt e)) {w:World} {b:Nat} {ks:List α} (h:MS enc ok w b ks) (nd:ks.Nodup) (k:α) (hk:ok k) (hm:k ∈ ks) :
  ∃ w',(Builtin.delete_ #[t,kt] ty #[.map (some b),enc k]).run Tryz.prog w=.ok (.tuple #[]) w'/\MS enc ok w' b (Zl8 k ks)/\w'.heap.size=w.heap.size/\(∀ i,i≠b->w'.heap[i]?=w.heap[i]?)/\Below b w w':=by
 obtain ⟨j,d⟩:=List.getElem?_of_mem hm
 obtain ⟨w',o,f,q⟩:=Jgk (ty:=ty) T ht h j k (.agg #[]) hk (by rw [List.getElem?_map,d];rfl) (Jgh nd d)
 refine ⟨w',o,?_,q⟩
 unfold MS
 rw [<- Zqv nd d,Zg4]
 exact f
theorem Zjw {t e ty:TypeId} (ht:Tryz.prog.underlying t=some (.map kt e)) {w:World} {b:Nat} {ks:List α} (h:MS enc ok w b ks):(Builtin.len_ #[t] ty #[.map (some b)]).run Tryz.prog w=.ok (.int .i64 ks.length) w:=by
 obtain ⟨A,s,o,f,q,B⟩:=h
 have hl:A.size=ks.length:=by have:=congrArg List.length f;simpa using this
 simp [Builtin.len_,run_underlying ht,MapKept.run_getObj_map o,hl,goInt,Builtin.lenOf,Result.andThen]
end
end Go.Proofs.YthfilnflgahcjaaGreatDoor

namespace Go.Proofs.YthfilnflgahcjaaGreatDoor
open Go.RowKit Go.Shelf
set_option linter.all false
attribute [local go_sem] Oper.semAt_some
def Ze2 (n:Int):Int:=if 4611686018427387904<n then 4611686018427387904 else if 0<n then n else 0
theorem Zi4 (n:Int) (w:World):Calls Tryz.prog 52 #[.int .i64 n] w fun e w'=>e=.returned (.int .i64 (Ze2 n))/\w'=w:=by
 unfold Ze2
 go_enter Tryz.func52,Tryz.ntmps52
 by_cases h1:4611686018427387904<n
 ·go_wp2
  go_ret
  exact ⟨by simp [h1],rfl⟩
 ·by_cases h2:0<n
  ·go_wp2
   go_ret
   exact ⟨by simp [h1,h2],rfl⟩
  ·go_wp2
   go_ret
   exact ⟨by simp [h1,h2],rfl⟩
end Go.Proofs.YthfilnflgahcjaaGreatDoor

namespace Go.Proofs.YthfilnflgahcjaaGreatDoor
open Go.RowKit
structure Up (w:World) where
 x:World
 b:Below w.heap.size w x
variable {P:Program}
theorem Zed {id:Nat} {Q:Exit->Act->World->Prop} {a:Act} {w:World} {l:List Oper} (hm:P.follows .mixedOrders=true) (hB:Region.lexB .any l.toArray=true)
  (h:wpQuiet P l.toArray (fun w'=>∃ u:Up w,w'=u.x) (fun d=>∀ w',(∃ u:Up w,w'=u.x)->Q .normal d w') l a):(Code.region id l.toArray true).wp P Q a w :=
 wp_region_quiet (C:=fun w'=>∃ u:Up w,w'=u.x) hm hB ⟨⟨w.drew,(Below.refl _ w).drew⟩,rfl⟩ (by simpa using h)
theorem Up.cell {w:World} (u:Up w) {p:Addr} {v:Value} (h:w.cell? p=some v):u.x.cell? p=some v:=by
 refine (u.b.cell ?_).trans h
 rcases Nat.lt_or_ge p.block w.heap.size with hl | hl
 ·exact hl
 ·simp [World.cell?,Array.getElem?_eq_none hl] at h
theorem Up.call {w:World} {u:Up w} {f:FuncId} {args:Array Value} {v:Value} (h:Calls P f args u.x fun e w'=>e=.returned v/\Below u.x.heap.size u.x w'):Calls P f args u.x fun e c=>e=.returned v/\∃ y:Up w,c=y.x :=
 h.mono fun _ c ⟨he,hb⟩=>⟨he,⟨c,u.b.trans (hb.mono u.b.size)⟩,rfl⟩
end Go.Proofs.YthfilnflgahcjaaGreatDoor

namespace Go.Proofs.YthfilnflgahcjaaGreatDoor
open Go.RowKit
section
variable {P:Program} {ops:Array Oper} {md:Region.Mode} {Q:Exit->Act->World->Prop} {keep:Nat->Bool}
theorem Zlq {d:Array Bool} {i:Nat} (h:d.getD i true=false):d.getD i false=false:=by
 rcases Nat.lt_or_ge i d.size with q | q
 ·simp [q] at h |-;exact h
 ·simp [Array.getElem?_eq_none q] at h
def NoQ:Exit->Act->World->Prop:=fun _ _ _=>False
def Zm7 (P:Program) (md:Region.Mode) (ops:Array Oper) (keep:Nat->Bool) (Q:Exit->Act->World->Prop):Nat->Array Bool->Act->World->Prop
 | 0,d,a,w=>Region.ready md ops d=[]/\Q .normal a w
 | fuel+1,d,a,w =>
  (Region.ready md ops d=[]->Q .normal a w) /\
  ∀ i ∈ Region.ready md ops d,
   if keep i=true then wpOp P ops NoQ i (fun E w'=>Below w.heap.size w w'/\Zm7 P md ops keep Q fuel (d.setIfInBounds i true) E w') a w
   else wpOp P ops Q i (Zm7 P md ops keep Q fuel (d.setIfInBounds i true)) a w
theorem Jbw {o:Oper} {a:Act} {w:World} {K:Act->World->Prop} (h:o.wp P a w K NoQ):o.wp P a w K Q:=by
 unfold Oper.wp at *
 generalize (execOp a.eval o).run P w=r at *
 cases r with
 | ok n w' =>
  cases n<;>simp only [Oper.upon] at h |-<;>first | exact h | skip
  exact Calls.mono h fun e a1 he=>by
   cases e with
   | returned v=>exact he
   | panicked c=>exact he.elim
   | outgrown=>exact he.elim fun _ h=>h.elim fun _ h=>h.elim
 | halt x w'=>cases x<;>simp only [Oper.upon] at h |-;exact h.elim
theorem Zt9 {i:Nat} {a:Act} {w:World} {K:Act->World->Prop} (h:wpOp P ops NoQ i K a w):wpOp P ops Q i K a w:=by
 unfold wpOp at *
 split
 ·rename_i ho;simpa [ho] using h
 ·rename_i o ho
  simp only [ho] at h
  split
  ·rename_i l
   simp only [l,if_true] at h
   rcases h with h | ⟨_,_,_,h⟩
   ·exact .inl (Jbw h)
   ·exact h.elim
  ·rename_i l;simp only [l] at h;exact h
theorem Zeq:∀ (fuel:Nat) (d:Array Bool) (a:Act) (w:World),Zm7 P md ops keep Q fuel d a w->wpAny P md ops Q fuel d a w
 | 0,_,_,_,h=>h
 | fuel+1,d,a,w,h=>⟨h.1,fun i z=>by
   have:=h.2 i z
   split at this
   ·exact wpOp_mono (fun E w' q=>Zeq fuel _ E w' q.2) (Zt9 this)
   ·exact wpOp_mono (fun E w' q=>Zeq fuel _ E w' q) this⟩
def Zdv (md:Region.Mode) (ops:Array Oper) (d:Array Bool):Prop :=
 d.size=ops.size/\∀ j f,ops[j]?=some f->d.getD j false=true->∀ e ∈ f.after,Region.binds md e=true->d.getD e.on false=true
theorem Zca {d:Array Bool} {i:Nat} (h:Zdv md ops d) (z:i ∈ Region.ready md ops d):Zdv md ops (d.setIfInBounds i true):=by
 obtain ⟨_,D,a0,g⟩:=mem_ready.1 z
 have up:∀ k,d.getD k false=true->(d.setIfInBounds i true).getD k false=true:=fun k hk=>by
  by_cases hik:i=k
  ·subst hik
   have:i<d.size:=by
    rcases Nat.lt_or_ge i d.size with q | q
    ·exact q
    ·simp [Array.getElem?_eq_none q] at hk
   simp [this]
  ·rw [getD_set_ne false hik];exact hk
 refine ⟨by simp [h.1],fun j f p hl e he hb=>up _ ?_⟩
 by_cases hij:i=j
 ·subst hij
  rw [a0] at p
  obtain rfl:=Option.some.inj p
  exact g e he hb
 ·rw [getD_set_ne false hij] at hl
  exact h.2 j f p hl e he hb
def Zip (md:Region.Mode) (ops:Array Oper):Nat->Nat->Nat->Bool
 | 0,_,_=>false
 | n+1,j,i=>match ops[j]? with
  | some f=>f.after.any fun e=>Region.binds md e&&(e.on==i||Zip md ops n e.on i)
  | none=>false
theorem Zd7 {d:Array Bool} (h:Zdv md ops d):∀ (n j i:Nat),(∀ f,ops[j]?=some f->∀ e ∈ f.after,Region.binds md e=true->d.getD e.on false=true)->Zip md ops n j i=true->d.getD i false=true
 | 0,_,_,_,l=>by cases l
 | n+1,j,i,p,l=>by
  unfold Zip at l
  split at l
  ·rename_i f ho
   obtain ⟨e,he,hb⟩:=Array.any_eq_true'.1 l
   simp only [Bool.and_eq_true,Bool.or_eq_true,beq_iff_eq] at hb
   have hl:=p f ho e he hb.1
   rcases hb.2 with rfl | Y
   ·exact hl
   ·exact Zd7 h n e.on i (fun ok hk e' U R=>h.2 _ ok hk hl e' U R) Y
  ·cases l
def upS (w:World):World->Prop:=fun x=>Below w.heap.size w x
theorem Zoo {S S':World->Prop} {o:Oper} {v:Value} {a:Act} (hs:∀ w,S' w->S w) (h:YieldsIf P ops S o v a):YieldsIf P ops S' o v a :=
 h.imp (fun ⟨C,T⟩=>⟨C,fun w l=>T w (hs w l)⟩) id
theorem Zqr {i:Nat} {D:Oper} {v:Value} (z:ops[i]?=some D) (u:∀ (j:Nat) (o:Oper) cs b,ops[j]?=some o->o.op≠.select cs b) (hk:keep i=true)
  (W:∀ j,j<ops.size->j≠i->keep j=false->Zip md ops ops.size j i=true) :
  ∀ (fuel:Nat) (d:Array Bool) (a:Act) (w:World),Zdv md ops d ->
   (∀ j f,ops[j]?=some f->j≠i->d.getD j true=false->(∀ e ∈ f.after,Region.binds md e=true->e.on≠i)->D.apart ops f=true) ->
   i ∈ Region.ready md ops d->YieldsIf P ops (upS w) D v a ->
   Zm7 P md ops keep Q fuel (d.setIfInBounds i true) (a.put D.dst v) w->Zm7 P md ops keep Q (fuel+1) d a w:=by
 intro fuel
 induction fuel with
 | zero =>
  intro d a w B _ hr N H
  refine ⟨fun h=>(by rw [h] at hr;cases hr),fun j p=>?_⟩
  by_cases hji:j=i
  ·subst hji
   rw [if_pos hk]
   exact N.wpOp z (Below.refl _ _) ⟨Below.refl _ _,H⟩
  ·have:=ready_mono p hji
   rw [H.1] at this
   cases this
 | succ fuel ih =>
  intro d a w B m hr N H
  refine ⟨fun h=>(by rw [h] at hr;cases hr),fun j p=>?_⟩
  by_cases hji:j=i
  ·subst hji
   rw [if_pos hk]
   exact N.wpOp z (Below.refl _ _) ⟨Below.refl _ _,H⟩
  ·have C:=H.2 j (ready_mono p hji)
   obtain ⟨y,f,s,g⟩:=mem_ready.1 p
   have h0:=(mem_ready.1 hr).1
   have G:d.getD i false=false:=Zlq h0
   have A:keep j=true:=by
    cases A:keep j with
    | true=>rfl
    | false =>
     have:=Zd7 B ops.size j i (fun ok F e he hb=>by
      rw [s] at F
      obtain rfl:=Option.some.inj F
      exact g e he hb) (W j (Array.getElem?_eq_some_iff.1 s).1 hji A)
     rw [G] at this;cases this
   rw [if_pos A] at C |-
   have L:∀ e ∈ f.after,Region.binds md e=true->e.on≠i:=fun e he hb X=>by
    have C:=g e he hb
    rw [X,G] at C;cases C
   have T:=wpOp_putIf (Q:=NoQ) s (m j f s hji y L) (fun cs b=>u i D cs b z) (fun cs b=>u j f cs b s) (fun _ _ _ h=>h) N C
   have t:∀ k ok,ops[k]?=some ok->k≠i->(d.setIfInBounds j true).getD k true=false ->
     (∀ e ∈ ok.after,Region.binds md e=true->e.on≠i)->D.apart ops ok=true:=fun k ok hk O M V=>by
    refine m k ok hk O ?_ V
    by_cases hjk:j=k
    ·subst hjk;exact y
    ·rw [getD_set_ne true hjk] at M;exact M
   refine wpOp_mono (fun E w' I=>⟨I.2.1,ih (d.setIfInBounds j true) E w' (Zca B p) t (ready_mono hr (Ne.symm hji)) (Zoo (fun x hx=>I.2.1.trans (Below.mono hx I.2.1.size)) I.1) ?_⟩) T
   rw [Array.setIfInBounds_comm _ _ hji]
   exact I.2.2
end
end Go.Proofs.YthfilnflgahcjaaGreatDoor

namespace Go.Proofs.YthfilnflgahcjaaGreatDoor
open Go.RowKit
section
variable {P:Program} {ops:Array Oper} {md:Region.Mode} {Q:Exit->Act->World->Prop} {keep:Nat->Bool}
theorem Zhm {α:Type} (f:α->Value):∀ (s:Sem α) (w:World) {n:Next} {w':World},(s.bind fun x=>Sem.pure (Next.value (f x))).run P w=.ok n w'->∃ u,n=.value u
 | .pure a,w,n,w',h=>by simp only [Sem.bind,Sem.run,Result.ok.injEq] at h;exact ⟨_,h.1.symm⟩
 | .load m a k,w,n,w',h=>by
  simp only [Sem.bind] at h
  unfold Sem.run at h
  repeat' split at h
  all_goals first | exact Zhm f _ _ h | (cases h;done)
 | .store m a v k,w,n,w',h=>by
  simp only [Sem.bind] at h
  cases v<;>(simp only [Sem.run] at h;repeat' split at h)<;>first | exact Zhm f _ _ h | (cases h;done)
 | .new o k,w,n,w',h=>by simp only [Sem.bind,Sem.run] at h;exact Zhm f _ _ h
 | .shape r k,w,n,w',h=>by simp only [Sem.bind,Sem.run] at h;exact Zhm f _ _ h
 | .freeze a m k,w,n,w',h=>by simp only [Sem.bind,Sem.run] at h;exact Zhm f _ _ h
 | .frozen a k,w,n,w',h=>by simp only [Sem.bind,Sem.run] at h;exact Zhm f _ _ h
 | .getObj r k,w,n,w',h=>by
  simp only [Sem.bind] at h
  unfold Sem.run at h
  repeat' split at h
  all_goals first | exact Zhm f _ _ h | (cases h;done)
 | .setObj r o k,w,n,w',h=>by
  simp only [Sem.bind] at h
  unfold Sem.run at h
  repeat' split at h
  all_goals first | exact Zhm f _ _ h | (cases h;done)
 | .choose q k,w,n,w',h=>by
  simp only [Sem.bind] at h
  unfold Sem.run at h
  repeat' split at h
  all_goals first | exact Zhm f _ _ h | (cases h;done)
 | .sys c k,w,n,w',h=>by simp only [Sem.bind,Sem.run] at h;exact Zhm f _ _ h
 | .program k,w,n,w',h=>by simp only [Sem.bind,Sem.run] at h;exact Zhm f _ _ h
 | .mark m k,w,n,w',h=>by simp only [Sem.bind,Sem.run] at h;exact Zhm f _ _ h
 | .halt x,w,n,w',h=>by simp only [Sem.bind,Sem.run] at h;cases h
def Jcu:Op->Bool
 | .move _ | .assign _ | .pick .. | .load .. | .fieldAddr .. | .field .. | .unOp .. | .binOp .. | .indexAddr .. | .index .. | .extract .. | .convert .. | .slice .. | .lookup .. | .typeAssert .. | .build .. | .makeInterface .. | .makeFunc ..=>true
 | .call c=>match c.callee with
  | .builtin .len | .builtin .cap | .builtin .min | .builtin .max=>true
  | _=>false
 | _=>false
theorem Zm0 {o:Oper} {ρ:Operand->Value} {w w':World} {n:Next} (h:Jcu o.op=true) (hr:(execOp ρ o).run P w=.ok n w'):∃ u,n=.value u:=by
 obtain ⟨dst,op,ty,pos,i,g⟩:=o
 cases op<;>first | (cases h;done) | skip
 case move x=>simp only [execOp] at hr;simp only [Pure.pure,Sem.run,Result.ok.injEq] at hr;exact ⟨_,hr.1.symm⟩
 case assign x=>simp only [execOp] at hr;simp only [Pure.pure,Sem.run,Result.ok.injEq] at hr;exact ⟨_,hr.1.symm⟩
 case pick c x y=>simp only [execOp] at hr;exact Zhm (P:=P) (fun b=>if b=true then ρ x else ρ y) _ w hr
 case call c =>
  obtain ⟨d,args,e⟩:=c
  cases d with
  | value f=>cases h
  | invoke r m=>cases h
  | builtin b =>
   cases b<;>first | (cases h;done) | skip
   all_goals (simp only [execOp,resolve,invoke,builtin] at hr;exact Zhm (P:=P) id _ w hr)
 all_goals (simp only [execOp] at hr;exact Zhm (P:=P) id _ w hr)
end
end Go.Proofs.YthfilnflgahcjaaGreatDoor

