/- Properties are put in order by their keys: at most twelve. What is kept of properties, at most twelve: those that are not null, in some order. AddNode where it is refused: nothing is done. A node is added to a graph that was made, whatever its labels and properties are: the graph can be told. -/
import Derived.Shelf.SlSortCmp.InsertionK
import Derived.Test.YteddjlbfbpecjaaGreatDoorJoin17
import Derived.Test.YteddjlbfbpecjaaGreatDoorJoin30
import Derived.Test.YteddjlbfbpecjaaGreatDoorGed15
import Derived.Test.YteddjlbfbpecjaaGreatDoorJoin29
namespace Go.Proofs
open Go.Shelf
set_option maxHeartbeats 4000000
set_option maxRecDepth 100000
def Tryz.laysIns_ren  : Go.Shelf.Ren:=⟨fun | 20=>208 | n=>n,fun | 22=>45 | 24=>79 | 25=>177 | n=>n,fun | n=>n⟩
theorem Tryz.laysIns  : Go.Proofs.SlLaysF0.n20 Tryz.prog Tryz.laysIns_ren:={
 mixed:=by kernel_rfl
 f20:=⟨Tryz.f208.name,by decide,Tryz.func208.trans (congrArg some (by kernel_rfl))⟩
 t0:=Tryz.underlying0
 a0:=Tryz.isAgg0
 z0:=Tryz.sizeOf0
 v0:=Tryz.zeroValue0
 t3:=Tryz.underlying3
 a3:=Tryz.isAgg3
 z3:=Tryz.sizeOf3
 v3:=Tryz.zeroValue3
 t4:=Tryz.underlying4
 a4:=Tryz.isAgg4
 z4:=Tryz.sizeOf4
 v4:=Tryz.zeroValue4
 t22:=Tryz.underlying45
 a22:=Tryz.isAgg45
 z22:=Tryz.sizeOf45
 v22:=Tryz.zeroValue45
 t25:=Tryz.underlying177
 a25:=Tryz.isAgg177
 z25:=Tryz.sizeOf177
 v25:=Tryz.zeroValue177 }
end Go.Proofs
namespace Go.Proofs.YteddjlbfbpecjaaGreatDoor
open Go.RowKit Go.Shelf Go.Sort
set_option linter.unusedVariables false
set_option linter.unusedSimpArgs false
attribute [local go_sem] Oper.semAt_some
abbrev Row7  := (ByteArray × Tree) × (Option Addr × Nat × Option Addr × Nat)
instance:Inhabited Row7:=⟨((⟨#[]⟩,.mk 0 false 0 ⟨#[]⟩ [] []),none,0,none,0)⟩
def enc7  : Row7→List Value
 | ((key,.mk k b n s ks ts),ka,kc,la,lc)=>[.string key,.int .i64 k,.bool b,.int .i64 n,.string s,.slice ka ks.length kc,.slice la ts.length lc]
theorem enc7_len (x:Row7):(enc7 x).length=7:=by
 obtain ⟨⟨key,⟨k,b,n,s,ks,ts⟩⟩,ka,kc,la,lc⟩:=x
 rfl
theorem enc7_one (x:Row7):∀ v ∈ enc7 x,v.oneCell'=true:=by
 obtain ⟨⟨key,⟨k,b,n,s,ks,ts⟩⟩,ka,kc,la,lc⟩:=x
 intro v hv
 simp only [enc7,List.mem_cons,List.not_mem_nil,or_false] at hv
 rcases hv with rfl | rfl | rfl | rfl | rfl | rfl | rfl<;>rfl
noncomputable def cf7 (x y:Row7):Int:=Lib.compareBytes x.1.1.data.toList y.1.1.data.toList
theorem cmpP_any (x y:Row7) (w:World):Calls Tryz.prog 134 (#[.agg (enc7 x).toArray,.agg (enc7 y).toArray]++#[]) w fun e w'=>e=.returned (.int .i64 (cf7 x y))∧∃ q os',w'=grow (w.drewN q) os':=by
 have HC:=hidE (fun W=>Tryz.strings_Compare x.1.1 y.1.1 W)
 have HF:Hid (cf7 x y=Lib.compareBytes x.1.1.data.toList y.1.1.data.toList):=rfl
 obtain ⟨⟨key,⟨k,b,n,s,ks,ts⟩⟩,ka,kc,la,lc⟩:=x
 obtain ⟨⟨key2,⟨k2,b2,n2,s2,ks2,ts2⟩⟩,ka2,kc2,la2,lc2⟩:=y
 simp only [enc7]
 simp only at HC HF
 generalize cf7 _ _=z at HF ⊢
 rw [← HF.out] at HC
 clear HF
 go_enter Tryz.func134,Tryz.ntmps134
 go_upto_region 1 with fail
 generalize hW1:World.alloc _ _=W1
 have hr1:=(rec_new w #[.string key,.int .i64 k,.bool b,.int .i64 n,.string s,.slice ka ks.length kc,.slice la ts.length lc] 79).alloc (.cells #[.string key2,.int .i64 k2,.bool b2,.int .i64 n2,.string s2,.slice ka2 ks2.length kc2,.slice la2 ts2.length lc2] 79)
 have hr2:=rec_new (w.alloc (.cells #[.string key,.int .i64 k,.bool b,.int .i64 n,.string s,.slice ka ks.length kc,.slice la ts.length lc] 79)) #[.string key2,.int .i64 k2,.bool b2,.int .i64 n2,.string s2,.slice ka2 ks2.length kc2,.slice la2 ts2.length lc2] 79
 rw [hW1] at hr1 hr2
 rw [World.size_alloc] at hr2
 have HG:Hid (∃ os',W1=grow w os'):=⟨_,by rw [← hW1,alloc_eq_grow,alloc_eq_grow,grow_grow]⟩
 have a0:=hr1.cell 0 rfl
 have b0:=hr2.cell 0 rfl
 clear hr1 hr2 hW1
 go_wp2_with fail
 refine (HC.out W1).mono ?_
 rintro e w2 ⟨rfl,hw2⟩
 rw [hw2]
 clear hw2
 go_wp2_with fail
 go_ret
 obtain ⟨os',h⟩:=HG.out
 exact ⟨rfl,0,os',by rw [h];rfl⟩
theorem cmp_lt  : ∀ a b:List UInt8,decide (Lib.compareBytes a b<0)=ltStr a b
 | [],[]=>by simp [Lib.compareBytes,ltStr]
 | [],_::_=>by simp [Lib.compareBytes,ltStr]
 | _::_,[]=>by simp [Lib.compareBytes,ltStr]
 | x::a,y::b=>by
  have ih:=cmp_lt a b
  unfold ltStr at ih ⊢
  rw [Lib.compareBytes]
  by_cases h1:x<y
  ·simp [h1,List.cons_lt_cons_iff]
  ·by_cases h2:y<x
   ·have:x≠y:=fun e=>by subst e;exact h1 h2
    simp [h1,h2,List.cons_lt_cons_iff,this]
   ·have:x=y:=UInt8.le_antisymm (UInt8.not_lt.1 h2) (UInt8.not_lt.1 h1)
    subst this
    simp [h1,List.cons_lt_cons_iff,ih]
theorem swo7  : SWO (ltOf cf7):=by
 have e:∀ x y,ltOf cf7 x y=ltStr x.1.1.data.toList y.1.1.data.toList:=fun x y=>cmp_lt _ _
 exact ⟨fun x=>by rw [e];exact swo_ltStr.irrefl _,fun x y z h1 h2=>by rw [e] at *;exact swo_ltStr.trans _ _ _ h1 h2,fun x y z h1 h2=>by rw [e] at *;exact swo_ltStr.ntrans _ _ _ h1 h2⟩
theorem pdq_small (v f:Value) (n:Nat) (hn':(n:Int)≤12) (l:Int) (w:World) (Q:World→Prop) (h:Calls Tryz.prog 208 #[v,.int .i64 0,.int .i64 n,f] w fun e w'=>e=.returned (.tuple #[])∧Q w'):Calls Tryz.prog 172 #[v,.int .i64 0,.int .i64 n,.int .i64 l,f] w fun e w'=>e=.returned (.tuple #[])∧Q w':=by
 have hsub:∀ W:World,(binOp .sub 3 (.int .i64 (n:Int)) (.int .i64 0)).run Tryz.prog W=.ok (.int .i64 (n:Int)) W:=fun W=>by
  have hw:IntKind.i64.wrap (n:Int)=n:=by rw [IntKind.wrap_i64];omega
  simp [binOp,go_sem,hw]
 have HC:=hidE h
 clear h
 go_enter Tryz.func172,Tryz.ntmps172
 go_wp2_with fail
 go_loopw [1,2] (fun i j wr=>i=.int .i64 0∧j=.int .i64 (n:Int)∧wr=w) (fun _ _ _=>0)
 case atStart=>exact ⟨rfl,rfl,rfl⟩
 case round =>
  obtain ⟨rfl,rfl,hwr⟩:=hrel
  rw [hwr]
  clear hwr
  go_wp2_with fail
  refine HC.out.mono ?_
  rintro e w2 ⟨rfl,hq⟩
  have HQ:=hidE hq
  clear hq
  go_wp2_with fail
  exact bodyPost_ret (v:=.tuple #[]) (by simp [results,Tryz.results172,go_sem]) rfl ⟨rfl,HQ.out⟩
theorem sortP_small (a:Option Addr) (n c:Nat) (f:Value) (hn:n≤12) (w:World) (Q:World→Prop) (h:Calls Tryz.prog 208 #[.slice a n c,.int .i64 0,.int .i64 n,f] w fun e w'=>e=.returned (.tuple #[])∧Q w'):Calls Tryz.prog 133 #[.slice a n c,f] w fun e w'=>e=.returned (.tuple #[])∧Q w':=by
 have HL:=hidE (Tryz.bits_Len (n:Int) w (by omega) (by omega))
 have HC:=hidE (fun l=>pdq_small (.slice a n c) f n (by omega) l w Q h)
 generalize (Lib.bitLen (n:Int).toNat:Int)=l at HL
 have hw:IntKind.u64.wrap (n:Int)=n:=by rw [IntKind.wrap_u64];omega
 clear hn h
 go_enter Tryz.func133,Tryz.ntmps133
 go_wp2_with fail
 refine HL.out.mono ?_
 rintro e w2 ⟨rfl,hw2⟩
 rw [hw2]
 clear hw2
 go_wp2_with fail
 refine (HC.out _).mono ?_
 rintro e w3 ⟨rfl,hq⟩
 have HQ:=hidE hq
 clear hq
 go_wp2_with fail
 exact bodyPost_end (v:=.tuple #[]) (by simp [results,Tryz.results133,go_sem]) rfl ⟨rfl,HQ.out⟩
theorem pick_list {α β:Type}:∀ (xs:List α) (P:Nat→α→β→Prop),(∀ i x,xs[i]?=some x→∃ y,P i x y)→∃ ys:List β,ys.length=xs.length∧∀ i x y,xs[i]?=some x→ys[i]?=some y→P i x y
 | [],P,h=>⟨[],rfl,fun i x y hx=>by simp at hx⟩
 | a::r,P,h=>by
  obtain ⟨y,hy⟩:=h 0 a rfl
  obtain ⟨ys,hl,hp⟩:=pick_list r (fun i=>P (i+1)) fun i x hx=>h (i+1) x (by simpa using hx)
  refine ⟨y::ys,by simp [hl],fun i x z hx hz=>?_⟩
  cases i with
  | zero =>
   obtain rfl:a=x:=by simpa using hx
   obtain rfl:y=z:=by simpa using hz
   exact hy
  | succ i=>exact hp i x z (by simpa using hx) (by simpa using hz)
def Nice (lo B:Nat) (w:World) (r:Row7):Prop:=∃ v0 v1 v2 v3 v4 v5,enc7 r=[.string r.1.1,v0,v1,v2,v3,v4,v5]∧r.1.1.size≤maxLen∧LiesF lo B w (.agg #[v0,v1,v2,v3,v4,v5]) r.1.2
theorem row_of {lo B g i:Nat} {w:World} {q:ByteArray × Tree} {cs:List Value} (h:PropIs lo B w cs q):∃ r:Row7,r.1=q∧enc7 r=cs∧Nice lo B w r:=by
 obtain ⟨x,⟨tk,tb,tn,ts,tks,tts⟩⟩:=q
 obtain ⟨v0,v1,v2,v3,v4,v5,rfl,hs,hv⟩:=h
 have hv0:=hv
 simp only [LiesF] at hv
 obtain ⟨ka,kc,la,lc,hag,_⟩:=hv
 obtain ⟨rfl,rfl,rfl,rfl,rfl,rfl⟩:v0=.int .i64 tk∧v1=.bool tb∧v2=.int .i64 tn∧v3=.string ts∧v4=.slice ka tks.length kc∧v5=.slice la tts.length lc:=by
  simpa using hag
 exact ⟨((x,.mk tk tb tn ts tks tts),ka,kc,la,lc),rfl,rfl,_,_,_,_,_,_,rfl,hs,hv0⟩
theorem Nice.keep {lo B:Nat} {w w':World} {r:Row7} (h:Nice lo B w r) (hk:KeepsF lo B w w'):Nice lo B w' r:=by
 obtain ⟨v0,v1,v2,v3,v4,v5,e,hs,hv⟩:=h
 exact ⟨v0,v1,v2,v3,v4,v5,e,hs,hv.keep hk⟩
theorem sortP_any (ps:List (ByteArray × Tree)) (g pc B:Nat) (w:World) (hB:B≤w.heap.size) (hg:g<B) (hn:ps.length≤12) (hpc:ps.length≤pc) (hpc2:pc≤9223372036854775807) (hr:RoomK 7 w g ps.length) (hf:Filled 7 g (PropIs (g+1)) B w ps) :
  Calls Tryz.prog 133 #[.slice (some ⟨g,0,none⟩) ps.length pc,.func (.func 134) #[] #[]] w fun e w'=>e=.returned (.tuple #[])∧∃ qs:List (ByteArray × Tree),qs.Perm ps∧PropsF g B w' (.slice (some ⟨g,0,none⟩) ps.length pc) qs∧Below g w w':=by
 obtain ⟨ds,hdl,hds⟩:=pick_list ps (fun i q r=>r.1=q∧Nice (g+1) B w r∧∀ t v,(enc7 r)[t]?=some v→w.cell? ⟨g,i*7+t,none⟩=some v) fun i q hq=>by
  obtain ⟨cs,_,hc,hi⟩:=hf i q hq
  obtain ⟨r,e1,e2,e3⟩:=row_of (g:=g) (i:=i) hi
  exact ⟨r,e1,e3,by rw [e2];exact hc⟩
 have hmap:ds.map Prod.fst=ps:=by
  apply List.ext_getElem?
  intro i
  rw [List.getElem?_map]
  by_cases hi:i<ps.length
  ·obtain ⟨r,hr'⟩:∃ r,ds[i]?=some r:=⟨_,List.getElem?_eq_getElem (by omega)⟩
   have:=(hds i _ r (List.getElem?_eq_getElem hi) hr').1
   rw [hr',List.getElem?_eq_getElem hi,← this];rfl
  ·rw [List.getElem?_eq_none (by omega),List.getElem?_eq_none (by omega)];rfl
 have hnice:∀ r ∈ ds,Nice (g+1) B w r:=fun r hr'=>by
  obtain ⟨i,hi⟩:=List.getElem?_of_mem hr'
  have hlt:=(List.getElem?_eq_some_iff.1 hi).1
  exact (hds i _ r (List.getElem?_eq_getElem (show i<ps.length by omega)) hi).2.1
 have hH:HoldsK enc7 7 w g 0 ds.toArray:=by
  intro t ht
  rw [size_flatK] at ht
  have ht':t<ps.length*7:=by simpa [hdl] using ht
  refine ⟨?_,by rw [Nat.zero_add];exact (hr t ht').2⟩
  have hq:t / 7<ps.length:=by omega
  have hdi:ds[t / 7]?=some ds.toArray[t / 7]!:=by
   rw [List.getElem?_eq_getElem (by omega),getElem!_pos _ _ (by simp;omega)];simp
  rw [get_flatK _ _ _ _ ht,Nat.zero_add]
  generalize ds.toArray[t / 7]! =r at hdi ⊢
  have hl:t % 7<(enc7 r).length:=by rw [enc7_len];omega
  have h3:=(hds (t / 7) _ _ (List.getElem?_eq_getElem hq) hdi).2.2 (t % 7) ((enc7 r)[t % 7]!) (by
   rw [getElem!_pos (enc7 r) (t % 7) hl]
   exact List.getElem?_eq_getElem _)
  rw [show t / 7*7+t % 7=t by omega] at h3
  exact h3
 have hsz:ds.toArray.size=ps.length:=by simp [hdl]
 have hins:=AnyQ.insertionSortCmpFunc Tryz.laysIns 7 (fun w=>Tryz.isAgg79 w) (fun w=>Tryz.sizeOf79 w) enc7 enc7_len enc7_one cf7 134 #[] g 0 pc 0 ds.toArray.size ds.toArray w (fun args w=>enters_of Tryz.func134 (by kernel_rfl) rfl args w) (fun m os dk _ x y=>cmpP_any x y _) hH (by omega) (Nat.zero_le _) (Nat.le_refl _) (by omega)
 obtain ⟨hperm,-⟩:=insertionSort_holds (lt:=ltOf cf7) swo7 ds.toArray 0 ds.toArray.size (Nat.zero_le _) (Nat.le_refl _)
 generalize Sort.insertionSort (ltOf cf7) ds.toArray 0 ds.toArray.size=d' at hins hperm
 rw [hsz] at hins
 refine sortP_small _ _ _ _ hn w _ (hins.mono ?_)
 rintro e w' ⟨he,n,os,rfl⟩
 have hs':d'.size=ds.toArray.size:=hperm.1
 have hp2:d'.toList.Perm ds:=by
  have:=hperm.2.2
  rw [← hs',Array.extract_size] at this
  rw [hs'] at this
  simpa using this
 have hH':=holdsK_sortWorldK_c enc7 7 w g 0 ds.toArray d' n os hH (by omega) hs'
 have hblk:∀ b,b≠g→b<w.heap.size→(sortWorldK enc7 7 w g 0 n d' os).heap[b]?=w.heap[b]?:=fun b h1 h2=>by
  unfold sortWorldK
  rw [heap_grow_old _ _ (by rw [size_putRowK];exact h2)]
  unfold putRowK putRow mapBlock
  simp [Array.getElem?_modify,Ne.symm h1,Sort.ahead]
 have hws:=size_sortWorldK_c enc7 7 w g 0 n d' os
 have hbel:Below g w (sortWorldK enc7 7 w g 0 n d' os):=⟨rfl,rfl,rfl,hws,fun k hk=>hblk k (by omega) (by omega)⟩
 have hkf:KeepsF (g+1) B w (sortWorldK enc7 7 w g 0 n d' os):=fun b o h1 h2=>⟨World.cell?_of_block (hblk b (by omega) (by omega)),by unfold World.frozen?;rw [hblk b (by omega) (by omega)]⟩
 have hlen:d'.toList.length=ps.length:=by rw [hp2.length_eq,hdl]
 generalize sortWorldK enc7 7 w g 0 n d' os=W at hH' hbel hkf
 refine ⟨he,d'.toList.map Prod.fst,by rw [← hmap];exact hp2.map _,⟨some ⟨g,0,none⟩,pc,?_,?_,hpc2,.inr ⟨g,rfl,Nat.le_refl _,hg,?_,?_⟩⟩,hbel⟩
 ·rw [List.length_map,hlen]
 ·rw [List.length_map,hlen];exact hpc
 ·intro o ho
  rw [List.length_map,hlen] at ho
  have:=hH' o (by rw [size_flatK,hs',hsz];exact ho)
  rw [Nat.zero_add] at this
  exact ⟨by rw [this.1];rfl,this.2⟩
 ·intro i x hx
  rw [List.getElem?_map] at hx
  obtain ⟨r,hr1,rfl⟩:=Option.map_eq_some_iff.1 hx
  obtain ⟨hi,hri⟩:=List.getElem?_eq_some_iff.1 hr1
  have hi':i<d'.size:=by simpa using hi
  obtain ⟨v0,v1,v2,v3,v4,v5,e,hs,hv⟩:=(hnice r (hp2.subset (List.mem_of_getElem? hr1))).keep hkf
  refine ⟨enc7 r,enc7_len r,fun q v hq=>?_,v0,v1,v2,v3,v4,v5,e,hs,hv⟩
  have hq7:q<7:=by have:=(List.getElem?_eq_some_iff.1 hq).1;rwa [enc7_len] at this
  have h4:=(hH'.cell hi' hq7).1
  rw [Nat.zero_add] at h4
  have hr2:d'[i]! =r:=by rw [getElem!_pos d' i hi'];simpa using hri
  rw [hr2] at h4
  rw [h4,getElem!_pos (enc7 r) q (by rw [enc7_len];exact hq7)]
  rw [List.getElem?_eq_getElem (by rw [enc7_len];exact hq7)] at hq
  exact hq
end Go.Proofs.YteddjlbfbpecjaaGreatDoor

namespace Go.Proofs.YteddjlbfbpecjaaGreatDoor
open Go.RowKit Go.Shelf
set_option linter.unusedVariables false
set_option linter.unusedSimpArgs false
attribute [local go_sem] Oper.semAt_some
theorem delete_propsF (v:Value) (ps:List (ByteArray × Tree)) (lo B:Nat) (w:World) (hlo:3≤lo) (hB:B≤w.heap.size) (h:PropsF lo B w v ps) (hn:ps.length≤2000000) (hE:Env w) (hm:∀ q ∈ ps,Modest q.2) (hl:lo≤w.heap.size) :
  Calls Tryz.prog 131 #[v,.func (.func 132) #[] #[]] w fun e w'=>∃ v',e=.returned v'∧PropsF lo B w' v' (leftB ps)∧Below lo w w':=by
 obtain ⟨pa,pc,rfl,h1,h2,h3⟩:=h
 rcases h3 with rfl | ⟨g,rfl,hg,hgB,hr,hf⟩
 ·refine (delete_same _ _ w ((index_none pa pc _ w).mono fun e w' h=>⟨h.1,h.2▸Below.refl _ _⟩)).mono ?_
  rintro e w' ⟨rfl,hb⟩
  exact ⟨_,rfl,⟨pa,pc,rfl,h1,h2,.inl rfl⟩,hb.mono hl⟩
 ·refine (delete_any ps g pc B w hB hgB (by omega) h1 h2 hn hr hf hE hm).mono ?_
  rintro e w' ⟨v',rfl,h4,hb⟩
  exact ⟨v',rfl,h4.mono hg (Nat.le_refl _),hb.mono hg⟩
theorem sort_propsF (v:Value) (ps:List (ByteArray × Tree)) (lo B:Nat) (w:World) (hB:B≤w.heap.size) (h:PropsF lo B w v ps) (hn:ps.length≤12) :
  Calls Tryz.prog 133 #[v,.func (.func 134) #[] #[]] w fun e w'=>e=.returned (.tuple #[])∧∃ qs:List (ByteArray × Tree),qs.Perm ps∧PropsF lo B w' v qs∧Below lo w w':=by
 obtain ⟨pa,pc,rfl,h1,h2,h3⟩:=h
 rcases h3 with rfl | ⟨g,rfl,hg,hgB,hr,hf⟩
 ·refine (sortP_few pa 0 pc _ (by omega) w).mono ?_
  rintro e w' ⟨rfl,rfl⟩
  exact ⟨rfl,[],List.Perm.refl _,⟨pa,pc,rfl,h1,h2,.inl rfl⟩,Below.refl _ _⟩
 ·refine (sortP_any ps g pc B w hB hgB hn h1 h2 hr hf).mono ?_
  rintro e w' ⟨rfl,qs,hp,h4,hb⟩
  exact ⟨rfl,qs,hp,h4.mono hg (Nat.le_refl _),hb.mono hg⟩
set_option maxRecDepth 100000 in
set_option maxHeartbeats 4000000 in
theorem kept_any (v:Value) (ps:List (ByteArray × Tree)) (B:Nat) (w:World) (hB:B≤w.heap.size) (hp:PropsLie B w v ps) (hn:ps.length≤12) (hE:Env w) (hq:∀ q ∈ ps,Modest q.2∧q.2.total≤2000000) :
  Calls Tryz.prog 88 #[v] w fun e w'=>∃ v' qs,e=.returned v'∧PropsF w.heap.size w'.heap.size w' v' qs∧qs.Perm (leftB ps)∧Below w.heap.size w w':=by
 have H1:=hidE (copiesP_any v ps B w hB hp (by omega) fun q h=>(hq q h).2)
 have HE:=hidE hE
 have HQ:=hidE hq
 obtain ⟨pa,pc,rfl,h1,h2,h3⟩:=hp
 clear h1 h2 h3 hE hq
 go_enter Tryz.func88,Tryz.ntmps88
 go_wp2_with fail
 refine H1.out.mono ?_
 rintro e w2 ⟨v2,rfl,hf2,hb2⟩
 have H2:=hidE (delete_propsF v2 ps w.heap.size w2.heap.size w2 HE.out.room (Nat.le_refl _) hf2 (by omega) (HE.out.below hb2 HE.out.room) (fun q h=>(HQ.out q h).1) hb2.size)
 have HB2:=hidE hb2
 obtain ⟨pa2,pc2,rfl,_⟩:=hf2
 clear hb2 H1
 go_wp2_with fail
 refine H2.out.mono ?_
 rintro e w3 ⟨v3,rfl,hf3,hb3⟩
 have hll:(leftB ps).length≤12:=Nat.le_trans (List.length_filter_le _ _) hn
 have HS3:Hid (w2.heap.size≤w3.heap.size):=hb3.size
 have H3:=hidE (sort_propsF v3 (leftB ps) w.heap.size w2.heap.size w3 hb3.size hf3 hll)
 have HB3:=hidE (HB2.out.trans hb3)
 obtain ⟨pa3,pc3,rfl,_⟩:=hf3
 clear hb3 H2
 generalize hln:(leftB ps).length=ln at H3 hll
 clear hln
 go_wp2_with fail
 refine H3.out.mono ?_
 rintro e w4 ⟨rfl,qs,hpm,hf4,hb4⟩
 have HF4:=hidE (hf4.mono (Nat.le_refl _) (show w2.heap.size≤w4.heap.size from Nat.le_trans HS3.out hb4.size))
 have HP4:=hidE hpm
 have HB4:=hidE (HB3.out.trans hb4)
 clear hb4 hpm hf4 H3
 go_wp2_with fail
 go_ret
 exact ⟨_,qs,rfl,HF4.out,HP4.out,HB4.out⟩
end Go.Proofs.YteddjlbfbpecjaaGreatDoor

namespace Go.Proofs.YteddjlbfbpecjaaGreatDoor
open Go.RowKit Go.Shelf
set_option maxHeartbeats 4000000
set_option maxRecDepth 100000
set_option linter.unusedVariables false
set_option linter.unusedSimpArgs false
attribute [local go_sem] Oper.semAt_some
theorem full_yes {w:World} {p:GP} {nn nr:Int} {N R F T:List (Int × Value)} (h:GS w p nn nr N R F T) (hs:N.length+R.length<65536) (k:Int) (hk:4611686018427387904≤k):Calls Tryz.prog 87 #[p.val,.int .i64 k] w fun e w'=>e=.returned (.bool true)∧Below w.heap.size w w':=by
 have HC:=hidE (size_yes h (by omega))
 have g1:¬ ((N.length:Int)+(R.length:Int)≥65536):=by omega
 have g2:k≥4611686018427387904:=by omega
 clear h
 unfold GP.val at HC ⊢
 go_enter Tryz.func87,Tryz.ntmps87
 go_wp2_with fail
 refine HC.out.mono ?_
 rintro e w1 ⟨rfl,hb⟩
 have HB:=hidE hb
 clear hb
 go_wp2_with fail
 go_ret
 exact ⟨by simp,HB.out⟩
theorem addNode_arg {w:World} {p:GP} {nn nr:Int} {N R F T:List (Int × Value)} (h:GS w p nn nr N R F T) (av pv:Value) (b1 b2:Bool) (hbb:(b1&&b2)=false)
  (hav:∃ a n c,av=.slice a n c) (hpv:∃ a n c,pv=.slice a n c)
  (ha:Calls Tryz.prog 85 #[av] w fun e w'=>e=.returned (.bool b1)∧Below w.heap.size w w')
  (hs:∀ W,Below w.heap.size w W→Calls Tryz.prog 86 #[pv] W fun e w'=>e=.returned (.bool b2)∧Below W.heap.size W w') :
  Calls Tryz.prog 30 #[p.val,av,pv] w fun e w'=>e=.returned (.tuple #[.int .i64 0,.int .i64 2])∧Below w.heap.size w w':=by
 obtain ⟨xa,xn,xc,rfl⟩:=hav
 obtain ⟨qa,qn,qc,rfl⟩:=hpv
 have HA:=hidE ha
 have HS:=hidE hs
 have HTh:=hidE (there_yes h)
 clear h ha hs
 unfold GP.val at HTh ⊢
 go_enter Tryz.func30,Tryz.ntmps30
 go_wp2_with fail
 refine HTh.out.mono ?_
 rintro e w1 ⟨rfl,hw1⟩
 rw [hw1]
 clear hw1 HTh
 go_wp2_with fail
 refine HA.out.mono ?_
 rintro e w2 ⟨rfl,hb2⟩
 have HB2:=hidE hb2
 clear hb2 HA
 cases b1 with
 | false =>
  go_wp2_with fail
  go_ret2
  exact ⟨rfl,HB2.out⟩
 | true =>
  have hb2:b2=false:=by simpa using hbb
  subst hb2
  clear hbb
  go_wp2_with fail
  refine (HS.out w2 HB2.out).mono ?_
  rintro e w3 ⟨rfl,hb3⟩
  have HB3:=hidE (below_on HB2.out hb3)
  clear hb3 HS
  go_wp2_with fail
  go_ret2
  exact ⟨rfl,HB3.out⟩
theorem addNode_many {w:World} {p:GP} {nn nr:Int} {N R F T:List (Int × Value)} (h:GS w p nn nr N R F T) (av pv:Value)
  (hav:∃ a n c,av=.slice a n c) (hpv:∃ a n c,pv=.slice a n c)
  (ha:Calls Tryz.prog 85 #[av] w fun e w'=>e=.returned (.bool true)∧Below w.heap.size w w')
  (hs:∀ W,Below w.heap.size w W→Calls Tryz.prog 86 #[pv] W fun e w'=>e=.returned (.bool true)∧Below W.heap.size W w')
  (hsz:N.length+R.length<65536) (hnn1:4611686018427387904≤nn) :
  Calls Tryz.prog 30 #[p.val,av,pv] w fun e w'=>e=.returned (.tuple #[.int .i64 0,.int .i64 151])∧Below w.heap.size w w':=by
 obtain ⟨xa,xn,xc,rfl⟩:=hav
 obtain ⟨qa,qn,qc,rfl⟩:=hpv
 have HG:=hidE h
 have HA:=hidE ha
 have HS:=hidE hs
 have HTh:=hidE (there_yes h)
 clear h ha hs
 unfold GP.val at HTh ⊢
 go_enter Tryz.func30,Tryz.ntmps30
 go_wp2_with fail
 refine HTh.out.mono ?_
 rintro e w1 ⟨rfl,hw1⟩
 rw [hw1]
 clear hw1 HTh
 go_wp2_with fail
 refine HA.out.mono ?_
 rintro e w2 ⟨rfl,hb2⟩
 have HB2:=hidE hb2
 clear hb2 HA
 go_wp2_with fail
 refine (HS.out w2 HB2.out).mono ?_
 rintro e w3 ⟨rfl,hb3⟩
 have HB3:=hidE (below_on HB2.out hb3)
 clear hb3 HS
 have HG3:=hidE (HG.out.below HB3.out)
 have HFu:=hidE (full_yes HG3.out hsz nn hnn1)
 unfold GP.val at HFu
 have c2:=HG3.out.c2
 go_wp2_with fail
 refine HFu.out.mono ?_
 rintro e w4 ⟨rfl,hb4⟩
 have HB4:=hidE (below_on HB3.out hb4)
 clear hb4 c2 HFu HG3 HB3 HB2
 go_wp2_with fail
 go_ret2
 exact ⟨rfl,HB4.out⟩
end Go.Proofs.YteddjlbfbpecjaaGreatDoor

namespace Go.Proofs.YteddjlbfbpecjaaGreatDoor
open Go.RowKit Go.Shelf
set_option linter.unusedVariables false
set_option linter.unusedSimpArgs false
def Lives (g:GraphP) (p:GP) (w:World):Prop:=∃ N R F T,GS w p g.nn g.nr N R F T∧TellOf w.heap.size w N R g.nodes g.rels
theorem TellOf.mono {B B':Nat} (hB:B≤B') {w:World} {N R:List (Int × Value)} {ns:List NodeP} {rs:List RelP} (h:TellOf B w N R ns rs):TellOf B' w N R ns rs :=
 ⟨h.nl,h.rl,h.no,h.ro,h.nu,h.ru,fun n hn=>by obtain ⟨v,h1,h2⟩:=h.ne n hn;exact ⟨v,h1,h2.mono hB⟩,fun n hn=>by obtain ⟨v,h1,h2⟩:=h.re n hn;exact ⟨v,h1,h2.mono hB⟩,h.ty⟩
theorem Lives.below {g:GraphP} {p:GP} {w w':World} (h:Lives g p w) (hb:Below w.heap.size w w'):Lives g p w':=by
 obtain ⟨N,R,F,T,h1,h2⟩:=h
 exact ⟨N,R,F,T,h1.below hb,(h2.below hb).mono hb.size⟩
structure Bears (g:GraphP):Prop where
 ofN:∀ x ∈ g.nodes,x.labels.length≤2000000∧x.props.length≤2000000∧∀ q ∈ x.props,q.2.total≤2000000
 ofR:∀ x ∈ g.rels,x.props.length≤2000000∧∀ q ∈ x.props,q.2.total≤2000000
 ty:∀ r ∈ g.rels,r.type.size≤maxLen
theorem tell_lives {g:GraphP} {p:GP} {w:World} (h:Lives g p w) (hg:Bears g):Calls Tryz.prog 19 #[p.val] w (TellF w g):=by
 obtain ⟨N,R,F,T,h1,h2⟩:=h
 exact Tell_any h1 w.heap.size (Nat.le_refl _) g.nodes g.rels h2 hg.ofN hg.ofR
theorem mem_onceN  : ∀ (n:Nat) (l:List ByteArray),∀ x ∈ onceN n l,x ∈ l
 | 0,l,x,h=>by simp [onceN] at h
 | n+1,[],x,h=>by simp [onceN] at h
 | n+1,y::r,x,h=>by
  rw [onceN] at h
  rcases List.mem_cons.1 h with rfl | h
  ·exact List.mem_cons_self
  ·exact List.mem_cons_of_mem _ ((List.dropWhile_sublist _).subset (mem_onceN n _ x h))
theorem mem_sortB {ks:List ByteArray} {x:ByteArray} (h:x ∈ sortB ks):∃ k ∈ ks,k.size=x.size:=by
 unfold sortB at h
 obtain ⟨l,h1,rfl⟩:=List.mem_map.1 h
 unfold sortL at h1
 have h2:=List.mem_mergeSort.1 h1
 obtain ⟨k,h3,rfl⟩:=List.mem_map.1 h2
 exact ⟨k,h3,by show k.data.size=(k.data.toList.toArray).size;rw [Array.toArray_toList]⟩
theorem texts_of {B n:Nat} {w:World} {a:Option Addr} {ks:List ByteArray} (h:KeysLie B w a ks) (hB:B≤n):TextsIn n w a ks:=fun i x hx=>by
 obtain ⟨hi,hg⟩:=List.getElem?_eq_some_iff.1 hx
 rcases h with rfl | ⟨b,off,e,hl,hc⟩
 ·simp at hi
 ·refine ⟨b,off,e,by omega,?_⟩
  rw [(hc i hi).1,List.getD_eq_getElem?_getD,hx];rfl
def KeptF (lo:Nat) (V:World) (v:Value):Prop:=∃ qs:List (ByteArray × Tree),PropsF lo V.heap.size V v qs∧qs.length≤2000000∧∀ q ∈ qs,q.2.total≤2000000
theorem addN_any {b0:Nat} {g:GraphP} {p:GP} {B lo:Nat} {N R F T:List (Int × Value)} {w:World} (h:Holds b0 g p B lo N R F T w) (hc:checkPB g=true) (hg:Bears g) (hz:g.nodes.length+g.rels.length<65536) (hE:Env w) (hi:I64 g.nn)
  (Bk:Nat) (hBk:Bk≤w.heap.size) (hB3:3≤Bk) (ks:List ByteArray) (a:Option Addr) (cap:Nat) (hk:KeysLie Bk w a ks) (hks:ks.length≤2000000) (hcap:ks.length≤cap) (hcap2:cap≤9223372036854775807) (hsz:∀ x ∈ ks,x.size≤140737488355328)
  (pv:Value) (ps:List (ByteArray × Tree)) (hp:PropsLie Bk w pv ps) (hps:ps.length≤12) (hq:∀ q ∈ ps,q.1.size≤140737488355328∧Modest q.2∧q.2.total≤2000000) :
  Calls Tryz.prog 30 #[p.val,.slice a ks.length cap,pv] w fun e w'=>(∃ x y,e=.returned (.tuple #[.int .i64 x,.int .i64 y]))∧Below b0 w w'∧∃ g',Lives g' p w'∧Bears g':=by
 have hlow:b0≤w.heap.size:=by have:=h.low;have:=h.lob;omega
 have hnl:N.length=g.nodes.length:=h.nodes.1
 have hrl:R.length=g.rels.length:=h.rels.1
 have hpv:∃ a n c,pv=.slice a n c:=by obtain ⟨pa,pc,rfl,_⟩:=hp;exact ⟨_,_,_,rfl⟩
 have hA:=allNames_any ks Bk a cap w hBk hk hcap hcap2 hsz hE hB3
 have hS:∀ W,Below w.heap.size w W→Calls Tryz.prog 86 #[pv] W fun e w'=>e=.returned (.bool (settableB ps))∧Below W.heap.size W w':=fun W hW =>
  settable_any pv ps Bk W (Nat.le_trans hBk hW.size) hB3 (hp.below (hW.mono hBk)) (fun q h=>⟨(hq q h).1,(hq q h).2.1⟩) (hE.below hW hE.room)
 have hL:Lives g p w:=⟨N,R,F,T,h.gs,(tell_made h hc (by omega) (by omega) hg.ty).mono (by have:=h.lob;omega)⟩
 have hno:∀ (e:Ending) (w':World) (x y:Int),e=.returned (.tuple #[.int .i64 x,.int .i64 y])∧Below w.heap.size w w'→(∃ x y,e=.returned (.tuple #[.int .i64 x,.int .i64 y]))∧Below b0 w w'∧∃ g',Lives g' p w'∧Bears g':=fun e w' x y ⟨h1,h2⟩ =>
  ⟨⟨x,y,h1⟩,h2.mono hlow,g,hL.below h2,hg⟩
 have hc':=hc
 unfold checkPB at hc'
 simp only [Bool.and_eq_true] at hc'
 obtain ⟨hlt,hn0,hn1⟩:=riseI_next hc'.2.1.1
 by_cases hb:(namesB ks&&settableB ps)=true
 ·obtain ⟨hb1,hb2⟩:=Bool.and_eq_true_iff.1 hb
  rw [hb1] at hA
  rw [hb2] at hS
  by_cases hfull:4611686018427387904≤g.nn
  ·exact (addNode_many h.gs _ pv ⟨_,_,_,rfl⟩ hpv hA hS (by omega) hfull).mono fun e w' q=>hno e w' _ _ q
  ·have hK:∀ W,Below w.heap.size w W→Calls Tryz.prog 88 #[pv] W fun e w'=>∃ a n c,e=.returned (.slice a n c)∧KeptF w.heap.size w' (.slice a n c)∧Below W.heap.size W w':=fun W hW=>by
    refine (kept_any pv ps Bk W (Nat.le_trans hBk hW.size) (hp.below (hW.mono hBk)) hps (hE.below hW hE.room) fun q h=>(hq q h).2).mono ?_
    rintro e w' ⟨v,qs,rfl,h1,h2,h3⟩
    have h4:=h1
    obtain ⟨pa,pc,rfl,_⟩:=h4
    refine ⟨_,_,_,rfl,⟨qs,h1.mono hW.size (Nat.le_refl _),?_,?_⟩,h3⟩
    ·have:=h2.length_eq
     have h5:(leftB ps).length≤ps.length:=List.length_filter_le _ _
     omega
    ·intro q hq'
     exact (hq q ((List.mem_filter.1 (h2.subset hq')).1)).2.2
   refine (addNode_okF h.gs B h.ok (by have:=h.lob;omega) ks a cap pv (KeptF w.heap.size) hpv hks hcap hcap2 (texts_of hk hBk) hA hS hK hi (by omega) hn0 ?_ (by omega)).mono ?_
   ·intro q hq'
    have h1:q.1 ∈ g.nodes.map NodeP.id:=by rw [← ents_key h.nodes];exact List.mem_map_of_mem hq'
    have:=hlt _ h1
    omega
   ·rintro e w' ⟨rfl,la,ln,lc,pa,pn,pc,hgs,hbw,hrow,hnone,V,X,⟨W,⟨qs,hqs,hql,hqt⟩,hWV⟩,hX,hrec,hwV,hVs,hsame⟩
    refine ⟨⟨_,_,rfl⟩,hbw.mono h.low,⟨g.nodes++[⟨g.nn,onceB (sortB ks),qs⟩],g.rels,g.nn+1,g.nr⟩,⟨_,R,F,T,hgs,?_⟩,?_,?_,?_⟩
    ·refine tell_added h hc (by omega) (by omega) hg.ty hbw ?_ rfl
     obtain ⟨rfl,h2,h3,h4⟩:=row_keys hrow (fun x hx=>by
      obtain ⟨k,hk1,hk2⟩:=mem_sortB (mem_onceN _ _ x hx)
      have:=hsz k hk1
      unfold maxLen;omega)
     have hV:PropsF w.heap.size V.heap.size V (.slice pa pn pc) qs:=(hqs.keep (keeps_belowF hWV (Nat.le_refl _))).mono (Nat.le_refl _) hWV.size
     have hO:Other V X:=fun o=>by
      have hcell:∀ v,V.cell? ⟨X,o,none⟩=some v→v=.int .i64 0∨v=.slice none 0 0:=fun v hv=>by
       have e:V.cell? ⟨X,o,none⟩=(#[Value.int .i64 0,.slice none 0 0,.slice none 0 0])[o]?:=by simp [World.cell?,show V.heap[X]?=_ from hrec]
       rw [e] at hv
       match o,hv with
       | 0,hv=>exact .inl (by simpa using hv.symm)
       | 1,hv=>exact .inr (by simpa using hv.symm)
       | 2,hv=>exact .inr (by simpa using hv.symm)
       | n+3,hv=>simp at hv
      exact ⟨fun s hs=>(hcell _ hs).elim (fun h=>by cases h) (fun h=>by cases h),fun b hs=>(hcell _ hs).elim (fun h=>by cases h) (fun h=>by cases h)⟩
     have hP:PropsF w.heap.size V.heap.size w' (.slice pa pn pc) qs:=hV.but hO fun b o h1 h2 h3=>⟨World.cell?_of_block (hsame b h1 h2 h3),by unfold World.frozen?;rw [hsame b h1 h2 h3]⟩
     obtain ⟨pa',pc',e',_⟩:=hP.lie
     injection e' with e1 e2 e3
     subst e2
     exact ⟨la,lc,pa,pc,rfl,⟨h2,h3⟩,h4,hP.lie.mono hVs⟩
    ·intro x hx
     rcases List.mem_append.1 hx with hx | hx
     ·exact hg.ofN x hx
     ·simp only [List.mem_cons,List.not_mem_nil,or_false] at hx
      subst hx
      refine ⟨?_,hql,hqt⟩
      show (onceB (sortB ks)).length≤_
      have:=onceB_len (sortB ks)
      rw [sortB_len] at this
      omega
    ·exact hg.ofR
    ·exact hg.ty
 ·have hb':(namesB ks&&settableB ps)=false:=by simpa using hb
  exact (addNode_arg h.gs _ pv _ _ hb' ⟨_,_,_,rfl⟩ hpv hA hS).mono fun e w' q=>hno e w' _ _ q
end Go.Proofs.YteddjlbfbpecjaaGreatDoor

