/- What is kept of properties: none, and one that is not null. The first property that is null. What is left of properties where those that are null are taken out. -/
import Derived.Test.YteddjlbfbpecjaaGreatDoorJoin16
import Derived.Test.YteddjlbfbpecjaaGreatDoorJoin29
import Derived.Test.YteddjlbfbpecjaaGreatDoorJoin17
namespace Go.Proofs.YteddjlbfbpecjaaGreatDoor
open Go.RowKit Go.Shelf
set_option maxHeartbeats 4000000
set_option maxRecDepth 100000
set_option linter.unusedVariables false
set_option linter.unusedSimpArgs false
attribute [local go_sem] Oper.semAt_some
theorem isnullP_any (key:ByteArray) (T:Tree) (c0 c1 c2 c3 c4 c5:Value) (B:Nat) (w:World) (hB:B≤w.heap.size) (hv:Lies B w (.agg #[c0,c1,c2,c3,c4,c5]) T) (hE:Env w) (hm:Modest T) :
  Calls Tryz.prog 132 #[.agg #[.string key,c0,c1,c2,c3,c4,c5]] w fun e w'=>e=.returned (.bool (sameB T nullT))∧Below w.heap.size w w':=by
 obtain ⟨k,x,n,s,ks,ts⟩:=T
 have HV:=hidE hv
 simp only [Lies] at hv
 obtain ⟨ka,kc,la,lc,hag,_⟩:=hv
 obtain ⟨rfl,rfl,rfl,rfl,rfl,rfl⟩:c0=.int .i64 k∧c1=.bool x∧c2=.int .i64 n∧c3=.string s∧c4=.slice ka ks.length kc∧c5=.slice la ts.length lc:=by
  simpa using hag
 have HE:=hidE hE
 have HMo:=hidE hm
 clear hag hE hm
 go_enter Tryz.func132,Tryz.ntmps132
 go_upto_region 1 with fail
 generalize hW1:World.alloc _ _=W1
 have HB1:Hid (Below w.heap.size w W1):=by rw [← hW1];exact (Below.refl _ _).alloc (Nat.le_refl _) _
 have hr:=rec_new w #[.string key,.int .i64 k,.bool x,.int .i64 n,.string s,.slice ka ks.length kc,.slice la ts.length lc] 79
 rw [hW1] at hr
 clear hW1
 have r1:=hr.cell 1 rfl
 have r2:=hr.cell 2 rfl
 have r3:=hr.cell 3 rfl
 have r4:=hr.cell 4 rfl
 have r5:=hr.cell 5 rfl
 have r6:=hr.cell 6 rfl
 clear hr
 have HC:=hidE (isnull_any _ B _ W1 (Nat.le_trans hB HB1.out.size) (HV.out.below (HB1.out.mono hB)) (HE.out.below HB1.out HE.out.room) HMo.out)
 go_wp2_with fail
 refine HC.out.mono ?_
 rintro e w2 ⟨rfl,hb2⟩
 have HB2:=hidE (below_on HB1.out hb2)
 clear hb2 r1 r2 r3 r4 r5 r6 HC
 go_wp2_with fail
 go_ret
 exact ⟨rfl,HB2.out⟩
theorem index_none (a:Option Addr) (c:Nat) (f:Value) (w:World):Calls Tryz.prog 171 #[.slice a 0 c,f] w fun e w'=>e=.returned (.int .i64 (-1))∧w'=w:=by
 go_enter Tryz.func171,Tryz.ntmps171
 go_wp2_with fail
 go_loopw [8] (fun i wr=>i=.int .i64 0∧wr=w) (fun _ _=>0)
 case atStart=>exact ⟨rfl,rfl⟩
 case round =>
  obtain ⟨rfl,rfl⟩:=hrel
  go_wp2_with fail
  go_ret
  exact ⟨rfl,rfl⟩
theorem index_one (key:ByteArray) (T:Tree) (bl off pc B:Nat) (w:World) (hB:B≤w.heap.size) (hbl:bl<w.heap.size) (hpc:1≤pc) (hpc2:pc≤9223372036854775807) (hp:PropAt B w bl off (key,T)) (hE:Env w) (hm:Modest T) (hn:sameB T nullT=false) :
  Calls Tryz.prog 171 #[.slice (some ⟨bl,off,none⟩) 1 pc,.func (.func 132) #[] #[]] w fun e w'=>e=.returned (.int .i64 (-1))∧Below w.heap.size w w':=by
 obtain ⟨a0,hs0,v0,v1,v2,v3,v4,v5,⟨c0,c1,c2,c3,c4,c5⟩,hv⟩:=hp
 simp only at a0 hv
 have HC:=hidE (isnullP_any key T v0 v1 v2 v3 v4 v5 B w hB hv hE hm)
 rw [hn] at HC
 clear hE hm hn
 go_enter Tryz.func171,Tryz.ntmps171
 go_wp2_with fail
 go_loopw [8] (fun i wr=>(i=.int .i64 0∧wr=w)∨(i=.int .i64 1∧Below w.heap.size w wr)) (fun i _=>1 - (intOf i).toNat)
 case atStart=>exact .inl ⟨rfl,rfl⟩
 case round =>
  rcases hrel with ⟨rfl,hw⟩ | ⟨rfl,hbr⟩
  ·rw [hw]
   clear hw
   go_wp2_with fail
   refine HC.out.mono ?_
   rintro e w2 ⟨rfl,hb2⟩
   have HB2:=hidE hb2
   clear hb2 a0 c0 c1 c2 c3 c4 c5
   go_wp2_with fail
   go_roundw
   case rel=>exact .inr ⟨by go_num,HB2.out⟩
   case measure=>simp [intOf]
  ·have HBR:=hidE hbr
   clear hbr
   go_wp2_with fail
   go_ret
   exact ⟨rfl,HBR.out⟩
theorem delete_same (v f:Value) (w:World) (h:Calls Tryz.prog 171 #[v,f] w fun e w'=>e=.returned (.int .i64 (-1))∧Below w.heap.size w w') :
  Calls Tryz.prog 131 #[v,f] w fun e w'=>e=.returned v∧Below w.heap.size w w':=by
 have HC:=hidE h
 clear h
 go_enter Tryz.func131,Tryz.ntmps131
 go_wp2_with fail
 refine HC.out.mono ?_
 rintro e w2 ⟨rfl,hb2⟩
 have HB2:=hidE hb2
 clear hb2
 go_wp2_with fail
 go_ret
 exact ⟨rfl,HB2.out⟩
theorem insertion_few (v f:Value) (n:Nat) (hn:n≤1) (w:World):Calls Tryz.prog 208 #[v,.int .i64 0,.int .i64 n,f] w fun e w'=>e=.returned (.tuple #[])∧w'=w:=by
 have hn':¬ ((1:Int)<n):=by omega
 go_enter Tryz.func208,Tryz.ntmps208
 go_wp2_with fail
 go_loopw [8] (fun i wr=>i=.int .i64 1∧wr=w) (fun _ _=>0)
 case atStart=>exact ⟨rfl,rfl⟩
 case round =>
  obtain ⟨rfl,rfl⟩:=hrel
  go_wp2_with fail
  exact bodyPost_end (v:=.tuple #[]) (by simp [results,Tryz.results208,go_sem]) rfl ⟨rfl,rfl⟩
theorem pdq_few (v f:Value) (n:Nat) (hn:n≤1) (l:Int) (w:World):Calls Tryz.prog 172 #[v,.int .i64 0,.int .i64 n,.int .i64 l,f] w fun e w'=>e=.returned (.tuple #[])∧w'=w:=by
 have hn':(n:Int)≤12:=by omega
 have hsub:∀ W:World,(binOp .sub 3 (.int .i64 (n:Int)) (.int .i64 0)).run Tryz.prog W=.ok (.int .i64 (n:Int)) W:=fun W=>by
  have hw:IntKind.i64.wrap (n:Int)=n:=by rw [IntKind.wrap_i64];omega
  simp [binOp,go_sem,hw]
 have HC:=hidE (insertion_few v f n hn w)
 clear hn
 go_enter Tryz.func172,Tryz.ntmps172
 go_wp2_with fail
 go_loopw [1,2] (fun i j wr=>i=.int .i64 0∧j=.int .i64 (n:Int)∧wr=w) (fun _ _ _=>0)
 case atStart=>exact ⟨rfl,rfl,rfl⟩
 case round =>
  obtain ⟨rfl,rfl,hwr⟩:=hrel
  rw [hwr]
  clear hwr
  go_wp2_with fail
  refine HC.out.mono ?_
  rintro e w2 ⟨rfl,hw2⟩
  rw [hw2]
  clear hw2
  go_wp2_with fail
  exact bodyPost_ret (v:=.tuple #[]) (by simp [results,Tryz.results172,go_sem]) rfl ⟨rfl,rfl⟩
theorem sortP_few (a:Option Addr) (n c:Nat) (f:Value) (hn:n≤1) (w:World):Calls Tryz.prog 133 #[.slice a n c,f] w fun e w'=>e=.returned (.tuple #[])∧w'=w:=by
 have HL:=hidE (Tryz.bits_Len (n:Int) w (by omega) (by omega))
 have HC:=hidE (fun l=>pdq_few (.slice a n c) f n hn l w)
 generalize (Lib.bitLen (n:Int).toNat:Int)=l at HL
 have hw:IntKind.u64.wrap (n:Int)=n:=by rw [IntKind.wrap_u64];omega
 clear hn
 go_enter Tryz.func133,Tryz.ntmps133
 go_wp2_with fail
 refine HL.out.mono ?_
 rintro e w2 ⟨rfl,hw2⟩
 rw [hw2]
 clear hw2
 go_wp2_with fail
 refine (HC.out _).mono ?_
 rintro e w3 ⟨rfl,hw3⟩
 rw [hw3]
 clear hw3
 go_wp2_with fail
 exact bodyPost_end (v:=.tuple #[]) (by simp [results,Tryz.results133,go_sem]) rfl ⟨rfl,rfl⟩
theorem kept_nil (n c:Nat) (w:World):Calls Tryz.prog 88 #[.slice none n c] w fun e w'=>e=.returned (.slice none 0 0)∧Below w.heap.size w w':=by
 have H1:=hidE (copiesP_nil (.func (.func 101) #[] #[]) n c w)
 have H2:=hidE (delete_same (.slice none 0 0) (.func (.func 132) #[] #[]) w ((index_none none 0 _ w).mono fun e w' h=>⟨h.1,h.2▸Below.refl _ _⟩))
 have H3:=hidE (fun W=>sortP_few none 0 0 (.func (.func 134) #[] #[]) (by omega) W)
 go_enter Tryz.func88,Tryz.ntmps88
 go_wp2_with fail
 refine H1.out.mono ?_
 rintro e w2 ⟨rfl,hw2⟩
 rw [hw2]
 clear hw2
 go_wp2_with fail
 refine H2.out.mono ?_
 rintro e w3 ⟨rfl,hb3⟩
 have HB3:=hidE hb3
 clear hb3
 go_wp2_with fail
 refine (H3.out _).mono ?_
 rintro e w4 ⟨rfl,hw4⟩
 rw [hw4]
 clear hw4
 go_wp2_with fail
 go_ret
 exact ⟨rfl,HB3.out⟩
theorem kept_one (key:ByteArray) (T:Tree) (bl off pc B:Nat) (w:World) (hB:B≤w.heap.size) (hbl:bl<B) (hpc:1≤pc) (hpc2:pc≤9223372036854775807) (hp:PropAt B w bl off (key,T)) (ht:T.total≤2000000) (hE:Env w) (hm:Modest T) (hn:sameB T nullT=false) :
  Calls Tryz.prog 88 #[.slice (some ⟨bl,off,none⟩) 1 pc] w fun e w'=>∃ d0 d1 d2 d3 d4 d5,e=.returned (.slice (some ⟨w.heap.size,0,none⟩) 1 1)∧Rec w' w.heap.size #[.string key,d0,d1,d2,d3,d4,d5] 79∧LiesF (w.heap.size+1) w'.heap.size w' (.agg #[d0,d1,d2,d3,d4,d5]) T∧Below w.heap.size w w':=by
 have hks:=hp.2.1
 have H1:=hidE (copiesP_one key T bl off pc B w hB hbl hpc hpc2 hp ht)
 have H3:=hidE (fun W=>sortP_few (some ⟨w.heap.size,0,none⟩) 1 1 (.func (.func 134) #[] #[]) (by omega) W)
 have HE:=hidE hE
 have HMo:=hidE hm
 have HN:=hidE hn
 have HK:=hidE hks
 clear hp ht hE hm hn hks
 go_enter Tryz.func88,Tryz.ntmps88
 go_wp2_with fail
 refine H1.out.mono ?_
 rintro e w2 ⟨d0,d1,d2,d3,d4,d5,rfl,hr2,hl2,hb2⟩
 have HP2:Hid (PropAt w2.heap.size w2 w.heap.size 0 (key,T)):=⟨hr2.cell 0 rfl,HK.out,d0,d1,d2,d3,d4,d5,⟨hr2.cell 1 rfl,hr2.cell 2 rfl,hr2.cell 3 rfl,hr2.cell 4 rfl,hr2.cell 5 rfl,hr2.cell 6 rfl⟩,hl2.lie⟩
 have H2:=hidE (delete_same (.slice (some ⟨w.heap.size,0,none⟩) 1 1) (.func (.func 132) #[] #[]) w2 (index_one key T w.heap.size 0 1 w2.heap.size w2 (Nat.le_refl _) hr2.lt (by omega) (by omega) HP2.out (HE.out.below hb2 HE.out.room) HMo.out HN.out))
 have HR2:=hidE hr2
 have HL2:=hidE hl2
 have HB2:=hidE hb2
 clear hr2 hl2 hb2 HP2
 go_wp2_with fail
 refine H2.out.mono ?_
 rintro e w3 ⟨rfl,hb3⟩
 have HR3:=hidE (HR2.out.below hb3 HR2.out.lt)
 have HL3:Hid (LiesF (w.heap.size+1) w3.heap.size w3 (.agg #[d0,d1,d2,d3,d4,d5]) T):=LiesF.mono (Nat.le_refl _) hb3.size (HL2.out.block fun b h1 h2=>hb3.block b h2)
 have HB3:=hidE (below_on HB2.out hb3)
 clear hb3
 go_wp2_with fail
 refine (H3.out _).mono ?_
 rintro e w4 ⟨rfl,hw4⟩
 rw [hw4]
 clear hw4
 go_wp2_with fail
 go_ret
 exact ⟨d0,d1,d2,d3,d4,d5,rfl,HR3.out,HL3.out,HB3.out⟩
end Go.Proofs.YteddjlbfbpecjaaGreatDoor

namespace Go.Proofs.YteddjlbfbpecjaaGreatDoor
open Go.RowKit Go.Shelf
set_option linter.unusedVariables false
set_option linter.unusedSimpArgs false
attribute [local go_sem] Oper.semAt_some
def nulB (q:ByteArray × Tree):Bool:=sameB q.2 nullT
def ixI  : List (ByteArray × Tree)→Nat→Int
 | [],_=>-1
 | q::r,j=>if nulB q=true then j else ixI r (j+1)
theorem ixI_at {ps:List (ByteArray × Tree)} {j:Nat} {q:ByteArray × Tree} (h:ps[j]?=some q):ixI (ps.drop j) j=if nulB q=true then (j:Int) else ixI (ps.drop (j+1)) (j+1):=by
 obtain ⟨hj,hx⟩:=List.getElem?_eq_some_iff.1 h
 rw [List.drop_eq_getElem_cons hj,hx,ixI]
set_option maxRecDepth 100000 in
set_option maxHeartbeats 4000000 in
theorem index_any (ps:List (ByteArray × Tree)) (bl off pc B:Nat) (w:World) (hB:B≤w.heap.size) (hbl:bl<B) (hpc:ps.length≤pc) (hpc2:pc≤9223372036854775807) (hp:∀ i q,ps[i]?=some q→PropAt B w bl (off+i*7) q) (hE:Env w) (hm:∀ q ∈ ps,Modest q.2) :
  Calls Tryz.prog 171 #[.slice (some ⟨bl,off,none⟩) ps.length pc,.func (.func 132) #[] #[]] w fun e w'=>e=.returned (.int .i64 (ixI ps 0))∧Below w.heap.size w w':=by
 obtain ⟨res,hres⟩:∃ r,ixI ps 0=r:=⟨_,rfl⟩
 rw [hres]
 have HP:=hidE hp
 have HE:=hidE hE
 have HM:=hidE hm
 have HR:=hidE hres
 clear hp hE hm hres
 go_enter Tryz.func171,Tryz.ntmps171
 go_wp2_with fail
 go_loopw [8] (fun i wr=>∃ j:Nat,j≤ps.length∧i=.int .i64 j∧Below w.heap.size w wr∧ixI (ps.drop j) j=res) (fun i _=>ps.length - (intOf i).toNat)
 case atStart=>exact ⟨0,Nat.zero_le _,rfl,Below.refl _ _,HR.out⟩
 case round =>
  obtain ⟨j,hj,rfl,hbr,hre⟩:=hrel
  have HBR:=hidE hbr
  have HRE:=hidE hre
  clear hbr hre HR
  by_cases hlt:j<ps.length
  ·obtain ⟨⟨x,⟨tk,tb,tn,ts,tks,tts⟩⟩,hx⟩:∃ q,ps[j]?=some q:=⟨_,List.getElem?_eq_getElem hlt⟩
   have HX:=hidE hx
   obtain ⟨cx,hsx,v0,v1,v2,v3,v4,v5,⟨c0,c1,c2,c3,c4,c5⟩,hv⟩:=(HP.out j _ hx).below (HBR.out.mono hB) hbl
   have htx:=HM.out _ (List.mem_of_getElem? hx)
   simp only at cx hsx hv htx
   have hv0:=hv
   simp only [Lies] at hv
   obtain ⟨kaa,kcc,laa,lcc,hag,_⟩:=hv
   obtain ⟨rfl,rfl,rfl,rfl,rfl,rfl⟩:v0=.int .i64 tk∧v1=.bool tb∧v2=.int .i64 tn∧v3=.string ts∧v4=.slice kaa tks.length kcc∧v5=.slice laa tts.length lcc:=by
    simpa using hag
   have HC:=hidE (isnullP_any x (.mk tk tb tn ts tks tts) _ _ _ _ _ _ B wr (by have:=HBR.out.size;omega) hv0 (HE.out.below HBR.out HE.out.room) htx)
   have HN:Hid (nulB (x,.mk tk tb tn ts tks tts)=sameB (.mk tk tb tn ts tks tts) nullT):=rfl
   clear hag hv0 hsx hx htx
   obtain ⟨nb,hnb⟩:∃ b,sameB (.mk tk tb tn ts tks tts) nullT=b:=⟨_,rfl⟩
   rw [hnb] at HC HN
   clear hnb
   cases nb with
   | true =>
    go_wp2_with fail
    refine HC.out.mono ?_
    rintro e w2 ⟨rfl,hb2⟩
    have HB2:=hidE (below_on HBR.out hb2)
    clear hb2 cx c0 c1 c2 c3 c4 c5 HC
    have HJ:Hid (res=(j:Int)):=by
     have:=HRE.out
     rw [ixI_at HX.out,HN.out,if_pos rfl] at this
     exact this.symm
    go_wp2_with fail
    go_ret
    exact ⟨by rw [HJ.out];rfl,HB2.out⟩
   | false =>
    go_wp2_with fail
    refine HC.out.mono ?_
    rintro e w2 ⟨rfl,hb2⟩
    have HB2:=hidE (below_on HBR.out hb2)
    clear hb2 cx c0 c1 c2 c3 c4 c5 HC
    have HJ:Hid (ixI (ps.drop (j+1)) (j+1)=res):=by
     have:=HRE.out
     rw [ixI_at HX.out,HN.out,if_neg (by simp)] at this
     exact this
    go_wp2_with fail
    go_roundw
    case rel=>exact ⟨j+1,by omega,by go_num,HB2.out,HJ.out⟩
    case measure=>simp [intOf];omega
  ·have HJ:Hid (res=-1):=by
    have:=HRE.out
    rw [List.drop_of_length_le (by omega),ixI] at this
    exact this.symm
   go_wp2_with fail
   go_ret
   exact ⟨by rw [HJ.out];rfl,HBR.out⟩
end Go.Proofs.YteddjlbfbpecjaaGreatDoor

namespace Go.Proofs.YteddjlbfbpecjaaGreatDoor
open Go.RowKit Go.Shelf
set_option linter.unusedVariables false
set_option linter.unusedSimpArgs false
attribute [local go_sem] Oper.semAt_some
def leftB (ps:List (ByteArray × Tree)):List (ByteArray × Tree):=ps.filter fun q=>!nulB q
theorem ixI_spec  : ∀ (ps:List (ByteArray × Tree)) (j:Nat),(ixI ps j=-1∧leftB ps=ps)∨∃ k q,ixI ps j=((j+k:Nat):Int)∧ps[k]?=some q∧nulB q=true∧leftB (ps.take k)=ps.take k
 | [],j=>.inl ⟨rfl,rfl⟩
 | x::r,j=>by
  by_cases h:nulB x=true
  ·exact .inr ⟨0,x,by rw [ixI,if_pos h];rfl,rfl,h,rfl⟩
  ·have h':nulB x=false:=by simpa using h
   rw [ixI,if_neg h]
   rcases ixI_spec r (j+1) with ⟨h1,h2⟩ | ⟨k,q,h1,h2,h3,h4⟩
   ·exact .inl ⟨h1,by unfold leftB at h2 ⊢;rw [List.filter_cons_of_pos (by simp [h']),h2]⟩
   ·refine .inr ⟨k+1,q,by rw [h1];congr 1;omega,by simpa using h2,h3,?_⟩
    unfold leftB at h4 ⊢
    rw [List.take_succ_cons,List.filter_cons_of_pos (by simp [h']),h4]
theorem left_take {ps:List (ByteArray × Tree)} {j:Nat} {q:ByteArray × Tree} (h:ps[j]?=some q):leftB (ps.take (j+1))=leftB (ps.take j)++if nulB q=true then [] else [q]:=by
 unfold leftB
 rw [List.take_add_one,h,List.filter_append]
 congr 1
 cases hq:nulB q<;>simp [hq]
def RowIs (g B:Nat) (w:World) (k:Nat) (x:ByteArray × Tree):Prop:=∃ cs,cs.length=7∧(∀ q v,cs[q]?=some v→w.cell? ⟨g,k*7+q,none⟩=some v)∧PropIs (g+1) B w cs x
structure DelJ (w:World) (g B:Nat) (ps:List (ByteArray × Tree)) (i j:Nat) (wr:World):Prop where
 le:i<j∧j≤ps.length
 cnt:i=(leftB (ps.take j)).length
 bel:Below g w wr
 far:KeepsF (g+1) B w wr
 room:RoomK 7 wr g ps.length
 done:∀ k x,(leftB (ps.take j))[k]?=some x→RowIs g B wr k x
 rest:∀ k x,j≤k→ps[k]?=some x→RowIs g B wr k x
theorem RowIs.keep {g B:Nat} {w w':World} {k:Nat} {x:ByteArray × Tree} (h:RowIs g B w k x) (hk:KeepsF (g+1) B w w') (hc:∀ q,q<7→w'.cell? ⟨g,k*7+q,none⟩=w.cell? ⟨g,k*7+q,none⟩):RowIs g B w' k x:=by
 obtain ⟨cs,h1,h2,h3⟩:=h
 exact ⟨cs,h1,fun q v hq=>(hc q (by have:=(List.getElem?_eq_some_iff.1 hq).1;omega)).trans (h2 q v hq),(prop_kept _).keep hk h3⟩
theorem DelJ.grow {w:World} {g B:Nat} {ps:List (ByteArray × Tree)} {i j:Nat} {wr wz:World} (h:DelJ w g B ps i j wr) (hg:g<B) (hB:B≤w.heap.size) (hb:Below wr.heap.size wr wz):DelJ w g B ps i j wz:=by
 have hs:=h.bel.size
 have hk:∀ b o,b<B→wz.cell? ⟨b,o,none⟩=wr.cell? ⟨b,o,none⟩∧wz.frozen? ⟨b,o,none⟩=wr.frozen? ⟨b,o,none⟩:=fun b o h1=>⟨hb.cell (p:=⟨b,o,none⟩) (by show b<_;omega),hb.frozen (p:=⟨b,o,none⟩) (by show b<_;omega)⟩
 refine ⟨h.le,h.cnt,h.bel.trans (hb.mono (by omega)),fun b o h1 h2=>⟨(hk b o h2).1.trans (h.far b o h1 h2).1,(hk b o h2).2.trans (h.far b o h1 h2).2⟩,h.room.below hb (by omega),fun k x hx=>(h.done k x hx).keep (fun b o _ h2=>hk b o h2) fun q _=>(hk g _ hg).1,fun k x hj hx=>(h.rest k x hj hx).keep (fun b o _ h2=>hk b o h2) fun q _=>(hk g _ hg).1⟩
theorem DelJ.skip {w:World} {g B:Nat} {ps:List (ByteArray × Tree)} {i j:Nat} {wr:World} (h:DelJ w g B ps i j wr) {q:ByteArray × Tree} (hx:ps[j]?=some q) (hq:nulB q=true):DelJ w g B ps i (j+1) wr:=by
 have hj:=(List.getElem?_eq_some_iff.1 hx).1
 have e:leftB (ps.take (j+1))=leftB (ps.take j):=by rw [left_take hx,if_pos hq,List.append_nil]
 exact ⟨⟨by have:=h.le;omega,hj⟩,by rw [e];exact h.cnt,h.bel,h.far,h.room,by rw [e];exact h.done,fun k x hk=>h.rest k x (by omega)⟩
theorem DelJ.put {w:World} {g B:Nat} {ps:List (ByteArray × Tree)} {i j:Nat} {wr:World} (h:DelJ w g B ps i j wr) {q:ByteArray × Tree} (hx:ps[j]?=some q) (hq:nulB q=false) {cs:List Value} (hl:cs.length=7) (hi:PropIs (g+1) B wr cs q):DelJ w g B ps (i+1) (j+1) (wr.setCells g (i*7) cs):=by
 have hj:=(List.getElem?_eq_some_iff.1 hx).1
 have hle:=h.le
 have e:leftB (ps.take (j+1))=leftB (ps.take j)++[q]:=by rw [left_take hx,if_neg (by simp [hq])]
 have hk:KeepsF (g+1) B wr (wr.setCells g (i*7) cs):=fun b o h1 _=>⟨cells_out (fun e=>by omega),cells_frozen _ _ _ _ _⟩
 refine ⟨⟨by omega,hj⟩,by rw [e,List.length_append,← h.cnt];rfl,cells_below (Nat.le_refl _) _ _ _ h.bel,fun b o h1 h2=>⟨(hk b o h1 h2).1.trans (h.far b o h1 h2).1,(hk b o h1 h2).2.trans (h.far b o h1 h2).2⟩,h.room.puts _ (by rw [hl];omega),fun k x hkx=>?_,fun k x hjk hkx=>(h.rest k x (by omega) hkx).keep hk fun q hq=>cells_out (fun _=>.inr (by rw [hl];omega))⟩
 rw [e] at hkx
 by_cases hki:k=i
 ·subst hki
  rw [List.getElem?_append_right (by rw [← h.cnt];exact Nat.le_refl _),← h.cnt,Nat.sub_self] at hkx
  obtain rfl:q=x:=by simpa using hkx
  exact ⟨cs,hl,fun t v ht=>cells_in (fun p hp=>(h.room _ (by rw [hl] at hp;omega)).1) ht,(prop_kept _).keep hk hi⟩
 ·have hlt:k<i:=by
   have:=(List.getElem?_eq_some_iff.1 hkx).1
   rw [List.length_append,← h.cnt] at this
   simp at this;omega
  rw [List.getElem?_append_left (by rw [← h.cnt];exact hlt)] at hkx
  exact (h.done k x hkx).keep hk fun q hq=>cells_out (fun _=>.inl (by omega))
theorem zero79 (w:World):(zeroValue 79).run Tryz.prog w=.ok (.agg #[.string ⟨#[]⟩,.int .i64 0,.bool false,.int .i64 0,.string ⟨#[]⟩,.slice none 0 0,.slice none 0 0]) w:=Tryz.zeroValue79 w
theorem clear7 (w:World) (ty:TypeId) (b i n c:Nat) (hi:i<n) (hr:RoomK 7 w b n):∃ vs:List Value,vs.length=(n - i)*7∧(Builtin.clear_ #[45] ty #[.slice (some ⟨b,i*7,none⟩) (n - i) c]).run Tryz.prog w=.ok (.tuple #[]) (w.setCells b (i*7) vs):=by
 obtain ⟨z,hz⟩:∃ z:Array Value,z=#[.string ⟨#[]⟩,.int .i64 0,.bool false,.int .i64 0,.string ⟨#[]⟩,.slice none 0 0,.slice none 0 0]:=⟨_,rfl⟩
 have hv:∀ w,(zeroValue 79).run Tryz.prog w=.ok (.agg z) w:=fun w=>by rw [hz];exact zero79 w
 have hzs:z.size=7:=by rw [hz];rfl
 have hz1:∀ q,q<7→(z[q]!).oneCell'=true:=by rw [hz];decide
 have hlen:(Builtin.zeroCells z (n - i)).toList.length=(n - i)*7:=by simp [Builtin.zeroCells,hzs]
 refine ⟨(Builtin.zeroCells z (n - i)).toList,hlen,?_⟩
 have hst:=run_storeCells_cells (P:=Tryz.prog) b (i*7) (Builtin.zeroCells z (n - i)).toList 0 w (fun j hj=>(hr _ (by rw [hlen] at hj;omega)).1) (fun j hj=>(hr _ (by rw [hlen] at hj;omega)).2) (by
  intro v hv'
  simp only [Builtin.zeroCells,hzs,Array.toList_map,List.mem_map] at hv'
  obtain ⟨t,_,rfl⟩:=hv'
  exact hz1 _ (Nat.mod_lt _ (by omega)))
 simp only [Nat.add_zero] at hst
 obtain ⟨m,hm⟩:∃ m,n - i=m+1:=⟨n - i - 1,by omega⟩
 rw [hm] at hst ⊢
 simp [Builtin.clear_,run_underlying Tryz.underlying45,hv,Value.cells,hst]
set_option maxRecDepth 100000 in
set_option maxHeartbeats 8000000 in
theorem delete_any (ps:List (ByteArray × Tree)) (g pc B:Nat) (w:World) (hB:B≤w.heap.size) (hg:g<B) (hg3:3≤g) (hpc:ps.length≤pc) (hpc2:pc≤9223372036854775807) (hn:ps.length≤2000000) (hr:RoomK 7 w g ps.length) (hf:Filled 7 g (PropIs (g+1)) B w ps) (hE:Env w) (hm:∀ q ∈ ps,Modest q.2) :
  Calls Tryz.prog 131 #[.slice (some ⟨g,0,none⟩) ps.length pc,.func (.func 132) #[] #[]] w fun e w'=>∃ v,e=.returned v∧PropsF g B w' v (leftB ps)∧Below g w w':=by
 have HX:=hidE (index_any ps g 0 pc B w hB hg hpc hpc2 (fun i q hq=>by
  obtain ⟨cs,_,hc,v0,v1,v2,v3,v4,v5,rfl,hs,hv⟩:=hf i q hq
  rw [Nat.zero_add]
  exact ⟨hc 0 _ rfl,hs,v0,v1,v2,v3,v4,v5,⟨hc 1 _ rfl,hc 2 _ rfl,hc 3 _ rfl,hc 4 _ rfl,hc 5 _ rfl,hc 6 _ rfl⟩,hv.lie⟩) hE hm)
 have HE:=hidE hE
 have HM:=hidE hm
 have HR:=hidE hr
 have HF:=hidE hf
 clear hE hm hr hf
 rcases ixI_spec ps 0 with ⟨hx,hall⟩ | ⟨k,q,hx,hk,hq,htk⟩
 ·rw [hx] at HX
  have HA:=hidE hall
  clear hall hx
  go_enter Tryz.func131,Tryz.ntmps131
  go_wp2_with fail
  refine HX.out.mono ?_
  rintro e w2 ⟨rfl,hb2⟩
  have HB2:=hidE hb2
  clear hb2
  go_wp2_with fail
  go_ret
  refine ⟨_,rfl,?_,HB2.out.mono (by omega)⟩
  rw [HA.out]
  exact ⟨_,_,rfl,hpc,hpc2,.inr ⟨g,rfl,Nat.le_refl _,hg,HR.out.below HB2.out (by omega),HF.out.keep (prop_kept _) (lo:=g) (keeps_belowF HB2.out hB) (Nat.le_refl _) hg⟩⟩
 ·rw [hx,Nat.zero_add] at HX
  have hkl:k<ps.length:=(List.getElem?_eq_some_iff.1 hk).1
  have HJ0:Hid (DelJ w g B ps k (k+1) w):=by
   have e:leftB (ps.take (k+1))=ps.take k:=by rw [left_take hk,if_pos hq,List.append_nil,htk]
   refine ⟨⟨by omega,hkl⟩,?_,Below.refl _ _,fun b o _ _=>⟨rfl,rfl⟩,HR.out,?_,fun k x _ hx=>HF.out k x hx⟩
   ·rw [e,List.length_take];omega
   ·intro t x hx
    rw [e] at hx
    have ht:t<k:=by have:=(List.getElem?_eq_some_iff.1 hx).1;simp at this;omega
    rw [List.getElem?_take_of_lt ht] at hx
    exact HF.out t x hx
  clear hx hk hq htk HR HF
  go_enter Tryz.func131,Tryz.ntmps131
  go_wp2_with fail
  refine HX.out.mono ?_
  rintro e w2 ⟨rfl,hb2⟩
  have HJ2:=hidE (HJ0.out.grow hg hB hb2)
  clear hb2 HX HJ0
  have hk0:((k:Int)==-1)=false:=by rw [beq_eq_false_iff_ne];omega
  go_wp2_with fail
  go_loopw [5,6] (fun i j wr=>∃ a b:Nat,i=.int .i64 a∧j=.int .i64 b∧b≤ps.length∧DelJ w g B ps a b wr) (fun _ j _=>ps.length - (intOf j).toNat)
  case atStart=>exact ⟨k,k+1,rfl,by go_num,by omega,HJ2.out⟩
  case round =>
   obtain ⟨a,b,rfl,rfl,hbl,hJ⟩:=hrel
   have HJ:=hidE hJ
   have hab:a<b:=hJ.le.1
   have hws:w.heap.size≤wr.heap.size:=hJ.bel.size
   clear hJ HJ2 hk0
   by_cases hlt:b<ps.length
   ·obtain ⟨⟨x,⟨tk,tb,tn,ts,tks,tts⟩⟩,hx⟩:∃ q,ps[b]?=some q:=⟨_,List.getElem?_eq_getElem hlt⟩
    have HX:=hidE hx
    obtain ⟨cs,hcl,hc,v0,v1,v2,v3,v4,v5,rfl,hs,hv⟩:=HJ.out.rest b _ (Nat.le_refl _) hx
    have htx:=HM.out _ (List.mem_of_getElem? hx)
    simp only at hs hv htx
    have hv0:=hv
    simp only [LiesF] at hv
    obtain ⟨kaa,kcc,laa,lcc,hag,_⟩:=hv
    obtain ⟨rfl,rfl,rfl,rfl,rfl,rfl⟩:v0=.int .i64 tk∧v1=.bool tb∧v2=.int .i64 tn∧v3=.string ts∧v4=.slice kaa tks.length kcc∧v5=.slice laa tts.length lcc:=by
     simpa using hag
    have c0:=hc 0 _ rfl
    have c1:=hc 1 _ rfl
    have c2:=hc 2 _ rfl
    have c3:=hc 3 _ rfl
    have c4:=hc 4 _ rfl
    have c5:=hc 5 _ rfl
    have c6:=hc 6 _ rfl
    rw [Nat.add_zero] at c0
    simp only at c0
    have HV:=hidE hv0
    have HS:=hidE hs
    clear hc hx hag hv0 hs hcl
    go_upto_region 8 with fail
    generalize hW2:World.alloc _ _=W2
    have hr2:=rec_new wr #[.string x,.int .i64 tk,.bool tb,.int .i64 tn,.string ts,.slice kaa tks.length kcc,.slice laa tts.length lcc] 79
    rw [hW2] at hr2
    have HR2:=hidE hr2
    have HB2:Hid (Below wr.heap.size wr W2):=by rw [← hW2];exact (Below.refl _ _).alloc (Nat.le_refl _) _
    have HE2:Hid (Env W2):=HE.out.keep (fun k hk=>(HB2.out.block k (by have:=HE.out.room;omega)).trans (HJ.out.bel.block k (by omega))) (by have:=HE.out.room;have:=HB2.out.size;omega)
    have hsz2:=HB2.out.size
    have HC:=hidE (isnullP_any x (.mk tk tb tn ts tks tts) _ _ _ _ _ _ B W2 (by omega) (HV.out.lie.below (HB2.out.mono (by omega))) HE2.out htx)
    have HN:Hid (nulB (x,.mk tk tb tn ts tks tts)=sameB (.mk tk tb tn ts tks tts) nullT):=rfl
    have k0:=hr2.cell 0 rfl
    have k1:=hr2.cell 1 rfl
    have k2:=hr2.cell 2 rfl
    have k3:=hr2.cell 3 rfl
    have k4:=hr2.cell 4 rfl
    have k5:=hr2.cell 5 rfl
    have k6:=hr2.cell 6 rfl
    obtain ⟨nb,hnb⟩:∃ b,sameB (.mk tk tb tn ts tks tts) nullT=b:=⟨_,rfl⟩
    rw [hnb] at HC HN
    clear hnb hW2 hr2 c0 c1 c2 c3 c4 c5 c6 htx
    cases nb with
    | true =>
     go_wp2_with fail
     refine HC.out.mono ?_
     rintro e w3 ⟨rfl,hb3⟩
     have HJ3:=hidE ((HJ.out.grow hg hB (below_on HB2.out hb3)).skip HX.out HN.out)
     clear hb3 HC k0 k1 k2 k3 k4 k5 k6
     go_wp2_with fail
     go_roundw
     case rel=>exact ⟨a,b+1,rfl,by go_num,by omega,HJ3.out⟩
     case measure=>simp [intOf];omega
    | false =>
     go_wp2_with fail
     refine HC.out.mono ?_
     rintro e w3 ⟨rfl,hb3⟩
     have HR3:=hidE (HR2.out.below hb3 HR2.out.lt)
     have HJ3:=hidE (HJ.out.grow hg hB (below_on HB2.out hb3))
     have HV3:Hid (LiesF (g+1) B w3 (.agg #[.int .i64 tk,.bool tb,.int .i64 tn,.string ts,.slice kaa tks.length kcc,.slice laa tts.length lcc]) (.mk tk tb tn ts tks tts)):=HV.out.keep (keeps_belowF (below_on HB2.out hb3) (by omega))
     have hne:wr.heap.size≠g:=by omega
     have hsz3:=hb3.size
     clear hb3 HC k0 k1 k2 k3 k4 k5 k6
     have k0:=HR3.out.cell 0 rfl
     have k1:=HR3.out.cell 1 rfl
     have k2:=HR3.out.cell 2 rfl
     have k3:=HR3.out.cell 3 rfl
     have k4:=HR3.out.cell 4 rfl
     have k5:=HR3.out.cell 5 rfl
     have k6:=HR3.out.cell 6 rfl
     have hrm3:=HJ3.out.room
     obtain ⟨u0,y0⟩:=Option.isSome_iff_exists.1 (hrm3 (a*7) (by omega)).1
     obtain ⟨u1,y1⟩:=Option.isSome_iff_exists.1 (hrm3 (a*7+1) (by omega)).1
     obtain ⟨u2,y2⟩:=Option.isSome_iff_exists.1 (hrm3 (a*7+2) (by omega)).1
     obtain ⟨u3,y3⟩:=Option.isSome_iff_exists.1 (hrm3 (a*7+3) (by omega)).1
     obtain ⟨u4,y4⟩:=Option.isSome_iff_exists.1 (hrm3 (a*7+4) (by omega)).1
     obtain ⟨u5,y5⟩:=Option.isSome_iff_exists.1 (hrm3 (a*7+5) (by omega)).1
     obtain ⟨u6,y6⟩:=Option.isSome_iff_exists.1 (hrm3 (a*7+6) (by omega)).1
     have f0:=(hrm3 (a*7) (by omega)).2
     have f1:=(hrm3 (a*7+1) (by omega)).2
     have f2:=(hrm3 (a*7+2) (by omega)).2
     have f3:=(hrm3 (a*7+3) (by omega)).2
     have f4:=(hrm3 (a*7+4) (by omega)).2
     have f5:=(hrm3 (a*7+5) (by omega)).2
     have f6:=(hrm3 (a*7+6) (by omega)).2
     clear hrm3
     go_upto_region 10 with fail
     clear y0 y1 y2 y3 y4 y5 y6 f0 f1 f2 f3 f4 f5 f6 k0 k1 k2 k3 k4 k5 k6
     generalize hW4:World.setCell _ _ _=W4
     have hW4':w3.setCells g (a*7) [.string x,.int .i64 tk,.bool tb,.int .i64 tn,.string ts,.slice kaa tks.length kcc,.slice laa tts.length lcc]=W4:=by rw [← hW4];rfl
     have HJ4:Hid (DelJ w g B ps (a+1) (b+1) W4):=by
      rw [← hW4']
      exact HJ3.out.put HX.out HN.out rfl ⟨_,_,_,_,_,_,rfl,HS.out,HV3.out⟩
     clear hW4 hW4'
     go_wp2_with fail
     go_roundw
     case rel=>exact ⟨a+1,b+1,by go_num,by go_num,by omega,HJ4.out⟩
     case measure=>simp [intOf];omega
   ·obtain rfl:b=ps.length:=by omega
    obtain ⟨vs,hvl,hcl⟩:=clear7 wr 0 g a ps.length (pc - a) hab HJ.out.room
    go_wp2_with fail
    go_ret
    clear hcl
    have e:leftB (ps.take ps.length)=leftB ps:=by rw [List.take_length]
    have hcnt:a=(leftB ps).length:=by rw [← e];exact HJ.out.cnt
    have hk:KeepsF (g+1) B wr (wr.setCells g (a*7) vs):=fun b o h1 _=>⟨cells_out (fun e=>by omega),cells_frozen _ _ _ _ _⟩
    have hrm:=HJ.out.room.puts (o:=a*7) vs (by rw [hvl,← Nat.add_mul];exact Nat.mul_le_mul_right 7 (by omega))
    refine ⟨_,rfl,⟨some ⟨g,0,none⟩,pc,by rw [← hcnt];rfl,by omega,hpc2,.inr ⟨g,rfl,Nat.le_refl _,hg,fun o ho=>hrm o (by rw [← hcnt] at ho;omega),fun i x hx=>?_⟩⟩,cells_below (Nat.le_refl _) _ _ _ HJ.out.bel⟩
    have hil:i<a:=by rw [hcnt];exact (List.getElem?_eq_some_iff.1 hx).1
    exact (HJ.out.done i x (by rw [e];exact hx)).keep hk fun q hq=>cells_out (fun _=>.inl (by omega))
end Go.Proofs.YteddjlbfbpecjaaGreatDoor

