/- What is kept of properties: none, and one that is not null. -/
import Derived.Test.YteddjlbfbpecjaaGreatDoorJoin16
import Derived.Test.YteddjlbfbpecjaaGreatDoorJoin31
import Derived.Test.YteddjlbfbpecjaaGreatDoorJoin20
import Derived.Test.YteddjlbfbpecjaaGreatDoorJoin14
import Derived.Test.YteddjlbfbpecjaaGreatDoorJoin30
import Derived.Test.YteddjlbfbpecjaaGreatDoorJoin3
import Derived.Deep.Cut
namespace Go.Proofs.YteddjlbfbpecjaaGreatDoor
section
open Go.RowKit Go.Shelf
set_option maxHeartbeats 4000000
set_option maxRecDepth 100000
set_option linter.all false
attribute [local go_sem] Oper.semAt_some
theorem Zne (key:ByteArray) (T:Zk) (c0 c1 c2 c3 c4 c5:Value) (B:Nat) (w:World) (hB:B≤w.heap.size) (hv:Zaw B w (.agg #[c0,c1,c2,c3,c4,c5]) T) (hE:Env w) (hm:Zct T) :
  Calls Tryz.prog 132 #[.agg #[.string key,c0,c1,c2,c3,c4,c5]] w fun e w'=>e=.returned (.bool (Ze9 T Zf5))∧Below w.heap.size w w':=by
 obtain ⟨k,x,n,s,ks,ts⟩:=T
 have HV:=Zb hv
 simp only [Zaw] at hv
 obtain ⟨ka,kc,la,lc,hag,_⟩:=hv
 obtain ⟨rfl,rfl,rfl,rfl,rfl,rfl⟩:c0=.int .i64 k∧c1=.bool x∧c2=.int .i64 n∧c3=.string s∧c4=.slice ka ks.length kc∧c5=.slice la ts.length lc:=by
  simpa using hag
 have HE:=Zb hE
 have HMo:=Zb hm
 clear hag hE hm
 go_enter Tryz.func132,Tryz.ntmps132
 go_upto_region 1 with fail
 generalize hW1:World.alloc _ _=W1
 have HB1:Hid (Below w.heap.size w W1):=by rw [← hW1];exact (Below.refl _ _).alloc (Nat.le_refl _) _
 have hr:=Zl w #[.string key,.int .i64 k,.bool x,.int .i64 n,.string s,.slice ka ks.length kc,.slice la ts.length lc] 79
 rw [hW1] at hr
 clear hW1
 have r1:=hr.cell 1 rfl
 have r2:=hr.cell 2 rfl
 have r3:=hr.cell 3 rfl
 have r4:=hr.cell 4 rfl
 have r5:=hr.cell 5 rfl
 have r6:=hr.cell 6 rfl
 clear hr
 have HC:=Zb (Zjq _ B _ W1 (Nat.le_trans hB HB1.out.size) (HV.out.below (HB1.out.mono hB)) (HE.out.below HB1.out HE.out.room) HMo.out)
 go_wp2_with fail
 refine HC.out.mono ?_
 rintro e w2 ⟨rfl,hb2⟩
 have HB2:=Zb (Za HB1.out hb2)
 clear hb2 r1 r2 r3 r4 r5 r6 HC
 go_wp2_with fail
 go_ret
 exact ⟨rfl,HB2.out⟩
theorem Zqo (a:Option Addr) (c:Nat) (f:Value) (w:World):Calls Tryz.prog 171 #[.slice a 0 c,f] w fun e w'=>e=.returned (.int .i64 (-1))∧w'=w:=by
 go_enter Tryz.func171,Tryz.ntmps171
 go_wp2_with fail
 go_loopw [8] (fun i wr=>i=.int .i64 0∧wr=w) (fun _ _=>0)
 case atStart=>exact ⟨rfl,rfl⟩
 case round =>
  obtain ⟨rfl,rfl⟩:=hrel
  go_wp2_with fail
  go_ret
  exact ⟨rfl,rfl⟩
theorem Zsw (key:ByteArray) (T:Zk) (bl off pc B:Nat) (w:World) (hB:B≤w.heap.size) (hbl:bl<w.heap.size) (hpc:1≤pc) (hpc2:pc≤9223372036854775807) (hp:Zdw B w bl off (key,T)) (hE:Env w) (hm:Zct T) (hn:Ze9 T Zf5=false) :
  Calls Tryz.prog 171 #[.slice (some ⟨bl,off,none⟩) 1 pc,.func (.func 132) #[] #[]] w fun e w'=>e=.returned (.int .i64 (-1))∧Below w.heap.size w w':=by
 obtain ⟨a0,hs0,v0,v1,v2,v3,v4,v5,⟨c0,c1,c2,c3,c4,c5⟩,hv⟩:=hp
 simp only at a0 hv
 have HC:=Zb (Zne key T v0 v1 v2 v3 v4 v5 B w hB hv hE hm)
 rw [hn] at HC
 clear hE hm hn
 go_enter Tryz.func171,Tryz.ntmps171
 go_wp2_with fail
 go_loopw [8] (fun i wr=>(i=.int .i64 0∧wr=w)∨(i=.int .i64 1∧Below w.heap.size w wr)) (fun i _=>1 - (intOf i).toNat)
 case atStart=>exact .inl ⟨rfl,rfl⟩
 case round =>
  rcases hrel with ⟨rfl,hw⟩ | ⟨rfl,hbr⟩
  ·rw [hw]
   clear hw
   go_wp2_with fail
   refine HC.out.mono ?_
   rintro e w2 ⟨rfl,hb2⟩
   have HB2:=Zb hb2
   clear hb2 a0 c0 c1 c2 c3 c4 c5
   go_wp2_with fail
   go_roundw
   case rel=>exact .inr ⟨by go_num,HB2.out⟩
   case measure=>simp [intOf]
  ·have HBR:=Zb hbr
   clear hbr
   go_wp2_with fail
   go_ret
   exact ⟨rfl,HBR.out⟩
theorem Zhv (v f:Value) (w:World) (h:Calls Tryz.prog 171 #[v,f] w fun e w'=>e=.returned (.int .i64 (-1))∧Below w.heap.size w w') :
  Calls Tryz.prog 131 #[v,f] w fun e w'=>e=.returned v∧Below w.heap.size w w':=by
 have HC:=Zb h
 clear h
 go_enter Tryz.func131,Tryz.ntmps131
 go_wp2_with fail
 refine HC.out.mono ?_
 rintro e w2 ⟨rfl,hb2⟩
 have HB2:=Zb hb2
 clear hb2
 go_wp2_with fail
 go_ret
 exact ⟨rfl,HB2.out⟩
theorem Zj8 (v f:Value) (n:Nat) (hn:n≤1) (w:World):Calls Tryz.prog 208 #[v,.int .i64 0,.int .i64 n,f] w fun e w'=>e=.returned (.tuple #[])∧w'=w:=by
 have hn':¬ ((1:Int)<n):=by omega
 go_enter Tryz.func208,Tryz.ntmps208
 go_wp2_with fail
 go_loopw [8] (fun i wr=>i=.int .i64 1∧wr=w) (fun _ _=>0)
 case atStart=>exact ⟨rfl,rfl⟩
 case round =>
  obtain ⟨rfl,rfl⟩:=hrel
  go_wp2_with fail
  exact bodyPost_end (v:=.tuple #[]) (by simp [results,Tryz.results208,go_sem]) rfl ⟨rfl,rfl⟩
theorem Zzw (v f:Value) (n:Nat) (hn:n≤1) (l:Int) (w:World):Calls Tryz.prog 172 #[v,.int .i64 0,.int .i64 n,.int .i64 l,f] w fun e w'=>e=.returned (.tuple #[])∧w'=w:=by
 have hn':(n:Int)≤12:=by omega
 have hsub:∀ W:World,(binOp .sub 3 (.int .i64 (n:Int)) (.int .i64 0)).run Tryz.prog W=.ok (.int .i64 (n:Int)) W:=fun W=>by
  have hw:IntKind.i64.wrap (n:Int)=n:=by rw [IntKind.wrap_i64];omega
  simp [binOp,go_sem,hw]
 have HC:=Zb (Zj8 v f n hn w)
 clear hn
 go_enter Tryz.func172,Tryz.ntmps172
 go_wp2_with fail
 go_loopw [1,2] (fun i j wr=>i=.int .i64 0∧j=.int .i64 (n:Int)∧wr=w) (fun _ _ _=>0)
 case atStart=>exact ⟨rfl,rfl,rfl⟩
 case round =>
  obtain ⟨rfl,rfl,hwr⟩:=hrel
  rw [hwr]
  clear hwr
  go_wp2_with fail
  refine HC.out.mono ?_
  rintro e w2 ⟨rfl,hw2⟩
  rw [hw2]
  clear hw2
  go_wp2_with fail
  exact bodyPost_ret (v:=.tuple #[]) (by simp [results,Tryz.results172,go_sem]) rfl ⟨rfl,rfl⟩
theorem Zlt (a:Option Addr) (n c:Nat) (f:Value) (hn:n≤1) (w:World):Calls Tryz.prog 133 #[.slice a n c,f] w fun e w'=>e=.returned (.tuple #[])∧w'=w:=by
 have HL:=Zb (Tryz.bits_Len (n:Int) w (by omega) (by omega))
 have HC:=Zb (fun l=>Zzw (.slice a n c) f n hn l w)
 generalize (Lib.bitLen (n:Int).toNat:Int)=l at HL
 have hw:IntKind.u64.wrap (n:Int)=n:=by rw [IntKind.wrap_u64];omega
 clear hn
 go_enter Tryz.func133,Tryz.ntmps133
 go_wp2_with fail
 refine HL.out.mono ?_
 rintro e w2 ⟨rfl,hw2⟩
 rw [hw2]
 clear hw2
 go_wp2_with fail
 refine (HC.out _).mono ?_
 rintro e w3 ⟨rfl,hw3⟩
 rw [hw3]
 clear hw3
 go_wp2_with fail
 exact bodyPost_end (v:=.tuple #[]) (by simp [results,Tryz.results133,go_sem]) rfl ⟨rfl,rfl⟩
theorem Zou (n c:Nat) (w:World):Calls Tryz.prog 88 #[.slice none n c] w fun e w'=>e=.returned (.slice none 0 0)∧Below w.heap.size w w':=by
 have H1:=Zb (Zib (.func (.func 101) #[] #[]) n c w)
 have H2:=Zb (Zhv (.slice none 0 0) (.func (.func 132) #[] #[]) w ((Zqo none 0 _ w).mono fun e w' h=>⟨h.1,h.2▸Below.refl _ _⟩))
 have H3:=Zb (fun W=>Zlt none 0 0 (.func (.func 134) #[] #[]) (by omega) W)
 go_enter Tryz.func88,Tryz.ntmps88
 go_wp2_with fail
 refine H1.out.mono ?_
 rintro e w2 ⟨rfl,hw2⟩
 rw [hw2]
 clear hw2
 go_wp2_with fail
 refine H2.out.mono ?_
 rintro e w3 ⟨rfl,hb3⟩
 have HB3:=Zb hb3
 clear hb3
 go_wp2_with fail
 refine (H3.out _).mono ?_
 rintro e w4 ⟨rfl,hw4⟩
 rw [hw4]
 clear hw4
 go_wp2_with fail
 go_ret
 exact ⟨rfl,HB3.out⟩
theorem Zwq (key:ByteArray) (T:Zk) (bl off pc B:Nat) (w:World) (hB:B≤w.heap.size) (hbl:bl<B) (hpc:1≤pc) (hpc2:pc≤9223372036854775807) (hp:Zdw B w bl off (key,T)) (ht:T.total≤2000000) (hE:Env w) (hm:Zct T) (hn:Ze9 T Zf5=false) :
  Calls Tryz.prog 88 #[.slice (some ⟨bl,off,none⟩) 1 pc] w fun e w'=>∃ d0 d1 d2 d3 d4 d5,e=.returned (.slice (some ⟨w.heap.size,0,none⟩) 1 1)∧Rec w' w.heap.size #[.string key,d0,d1,d2,d3,d4,d5] 79∧Zay (w.heap.size+1) w'.heap.size w' (.agg #[d0,d1,d2,d3,d4,d5]) T∧Below w.heap.size w w':=by
 have hks:=hp.2.1
 have H1:=Zb (Znq key T bl off pc B w hB hbl hpc hpc2 hp ht)
 have H3:=Zb (fun W=>Zlt (some ⟨w.heap.size,0,none⟩) 1 1 (.func (.func 134) #[] #[]) (by omega) W)
 have HE:=Zb hE
 have HMo:=Zb hm
 have HN:=Zb hn
 have HK:=Zb hks
 clear hp ht hE hm hn hks
 go_enter Tryz.func88,Tryz.ntmps88
 go_wp2_with fail
 refine H1.out.mono ?_
 rintro e w2 ⟨d0,d1,d2,d3,d4,d5,rfl,hr2,hl2,hb2⟩
 have HP2:Hid (Zdw w2.heap.size w2 w.heap.size 0 (key,T)):=⟨hr2.cell 0 rfl,HK.out,d0,d1,d2,d3,d4,d5,⟨hr2.cell 1 rfl,hr2.cell 2 rfl,hr2.cell 3 rfl,hr2.cell 4 rfl,hr2.cell 5 rfl,hr2.cell 6 rfl⟩,hl2.lie⟩
 have H2:=Zb (Zhv (.slice (some ⟨w.heap.size,0,none⟩) 1 1) (.func (.func 132) #[] #[]) w2 (Zsw key T w.heap.size 0 1 w2.heap.size w2 (Nat.le_refl _) hr2.lt (by omega) (by omega) HP2.out (HE.out.below hb2 HE.out.room) HMo.out HN.out))
 have HR2:=Zb hr2
 have HL2:=Zb hl2
 have HB2:=Zb hb2
 clear hr2 hl2 hb2 HP2
 go_wp2_with fail
 refine H2.out.mono ?_
 rintro e w3 ⟨rfl,hb3⟩
 have HR3:=Zb (HR2.out.below hb3 HR2.out.lt)
 have HL3:Hid (Zay (w.heap.size+1) w3.heap.size w3 (.agg #[d0,d1,d2,d3,d4,d5]) T):=Zay.mono (Nat.le_refl _) hb3.size (HL2.out.block fun b h1 h2=>hb3.block b h2)
 have HB3:=Zb (Za HB2.out hb3)
 clear hb3
 go_wp2_with fail
 refine (H3.out _).mono ?_
 rintro e w4 ⟨rfl,hw4⟩
 rw [hw4]
 clear hw4
 go_wp2_with fail
 go_ret
 exact ⟨d0,d1,d2,d3,d4,d5,rfl,HR3.out,HL3.out,HB3.out⟩
end
section
open Go.RowKit Go.Shelf
set_option linter.all false
attribute [local go_sem] Oper.semAt_some
def tK  : Zk:=.mk 2 false 1 ⟨#[]⟩ [] []
theorem Zur (B:Nat) (w:World):Zaw B w (.agg #[.int .i64 2,.bool false,.int .i64 1,.string ⟨#[]⟩,.slice none 0 0,.slice none 0 0]) tK:=by
 unfold tK
 simp only [Zaw]
 exact ⟨none,0,none,0,rfl,⟨by unfold maxLen;decide,Nat.le_refl _,Nat.zero_le _,Nat.le_refl _,Nat.zero_le _⟩,Or.inl (by simp),Or.inl (by simp)⟩
theorem Zmh  : Zct tK:=⟨by decide,by decide⟩
theorem Zx1  : checkN tK=0:=by
 unfold checkN tK
 simp [Zk.pre,Zk.preL,Zz,Zcr,Zal,Lib.validD]
 rw [if_pos (by decide),if_neg (by decide)]
theorem Jai  : Ze9 tK Zf5=false:=by
 have h:(Zm0 tK Zf5==0)=false:=by
  unfold tK Zf5 Zm0
  have e:Zfw (Zfa 2) (Zfa 0)≠0:=by decide
  rw [if_neg e]
  simpa using e
 unfold Ze9
 rw [h,Bool.and_false]
theorem Zx2  : tK.total≤2000000:=by decide
theorem Zx3  : Zgw [⟨#[66]⟩,⟨#[65]⟩]=true:=by decide
theorem Jc7  : Jn (⟨#[84]⟩:ByteArray).data.toList=true:=by decide
theorem Jc8  : Jn (⟨#[107]⟩:ByteArray).data.toList=true:=by decide
theorem Jc9  : Zjx (⟨#[107]⟩,tK)=true:=by
 have h1:Zgn tK=true:=by decide
 unfold Zjx
 simp only
 rw [Jc8,Zx1,h1]
 simp
theorem Zq7  : Zbo [(⟨#[107]⟩,tK)]=true:=by
 unfold Zbo Zbn
 simp [Jc9,Zhk]
theorem Zkv  : Zbo []=true:=by
 unfold Zbo Zbn
 simp
theorem Zq8 (B:Nat) (w:World):Jh B w (.slice none 0 0) []:=⟨none,0,rfl,Nat.le_refl _,by decide,.inl rfl⟩
theorem Zkw {w W:World} (hE:Env w) (hb:Below w.heap.size w W):Calls Tryz.prog 86 #[.slice none 0 0] W fun e w'=>e=.returned (.bool true)∧Below W.heap.size W w':=by
 have h:=Zgs (.slice none 0 0) [] W.heap.size W (Nat.le_refl _) (Nat.le_trans hE.room hb.size) (Zq8 _ _) (by simp) (hE.below hb hE.room)
 rwa [Zkv] at h
theorem Zus (W:World):Calls Tryz.prog 88 #[.slice none 0 0] W fun e w'=>∃ a n c,e=.returned (.slice a n c)∧(Value.slice a n c=.slice none 0 0)∧Below W.heap.size W w' :=
 (Zou 0 0 W).mono fun e w' ⟨h1,h2⟩=>⟨none,0,0,h1,rfl,h2⟩
theorem Zpj {w W:World} (hE:Env w) (hb:Below w.heap.size w W):Calls Tryz.prog 90 #[.string ⟨#[84]⟩] W fun e w'=>e=.returned (.bool true)∧Below W.heap.size W w':=by
 have h:=Zel ⟨#[84]⟩ (by decide) W (hE.below hb hE.room)
 rwa [Jc7] at h
end
section
open Go.RowKit Go.Shelf
set_option linter.all false
attribute [local go_sem] Oper.semAt_some
theorem Zk4  : Zg1 []:=fun p hp=>by cases hp
theorem Zhc (a:Int × Value):Zg1 [a]:=fun p hp q hq _=>by simp at hp hq;rw [hp,hq]
theorem Zyq {a b:Int × Value} (h:a.1≠b.1):Zg1 [a,b]:=fun p hp q hq e=>by
 simp at hp hq
 rcases hp with rfl | rfl<;>rcases hq with rfl | rfl
 ·rfl
 ·exact absurd e h
 ·exact absurd e.symm h
 ·rfl
theorem Zvu {b:Nat} {k:Int} {a:Option Addr} {n c:Nat} (hk:I64 k):Zrn b [(k,.slice a n c)] k a n c:=fun W hW =>
 (Zis (z:=.slice none 0 0) Tryz.underlying72' hW k _ hk (by simp) (fun q hq e=>by simp at hq;rw [hq])).2
theorem Zgp {b:Nat} {es:List (Int × Value)} {k:Int} (hk:I64 k) (h:∀ q ∈ es,q.1≠k):Zrn b es k none 0 0:=fun W hW=>(Zir Tryz.underlying72' Zkk hW k hk h).2
theorem Zvv {W:World} {base:Nat} {v:Value} {id:Int} (h:W.ownsRow base 2 1 v 1 [.int .i64 id]):∃ Y c,v=.slice (some ⟨Y,0,none⟩) 1 c∧base≤Y∧1≤c∧c≤9223372036854775807∧W.cell? ⟨Y,0,none⟩=some (.int .i64 id)∧W.frozen? ⟨Y,0,none⟩=false∧v.ownBlock=some Y:=by
 have h':=h
 rcases h.2 with ⟨_,h0⟩ | ⟨gb,gc,cur,h1,hbase,hgb,r1,r2,r3,r4⟩
 ·simp at h0
 ·subst h1
  refine ⟨gb,gc,rfl,hbase,r1,by unfold maxLen at r2;omega,?_,by simp [World.frozen?,hgb],rfl⟩
  have:=h'.cells (g:=gb) rfl 0 (.int .i64 id) rfl
  have hadd:(⟨gb,0,none⟩:Addr).add 0=⟨gb,0,none⟩:=by unfold Addr.add;split<;>simp_all
  rwa [hadd] at this
theorem Zro (w:World) (hE:Env w):Calls Tryz.prog 13 #[.agg #[.slice none 0 0,.slice none 0 0,.int .i64 0,.int .i64 0]] w fun e w'=>∃ p:GP,e=.returned (.tuple #[p.val,.int .i64 0])∧Below w.heap.size w w'∧p.Ok w.heap.size∧GS w' p 0 0 [] [] [] []:=by
 have hg:Zq w.heap.size w (.agg #[.slice none 0 0,.slice none 0 0,.int .i64 0,.int .i64 0]) ⟨[],[],0,0⟩:=⟨none,0,none,0,rfl,⟨none,0,rfl,Nat.le_refl _,by omega,.inl rfl⟩,⟨none,0,rfl,Nat.le_refl _,by omega,.inl rfl⟩⟩
 refine (Zwp ⟨[],[],0,0⟩ w.heap.size _ w (Nat.le_refl _) hE hg ⟨by simp,by simp,by simp,by simp⟩ ⟨by simp,by simp⟩ ⟨by simp,by simp⟩ (by simp) (by simp) (by simp)).mono ?_
 intro e w' hm
 cases hm with
 | no hc hb=>exact absurd hc (by decide)
 | yes hc p hm hb =>
  obtain ⟨B,lo,N,R,F,T,h⟩:=hm
  have h1:N=[]:=List.eq_nil_of_length_eq_zero h.nodes.1
  have h2:R=[]:=List.eq_nil_of_length_eq_zero h.rels.1
  have h3:F=[]:=List.eq_nil_of_length_eq_zero h.fr.1
  have h4:T=[]:=List.eq_nil_of_length_eq_zero h.tt.1
  subst h1 h2 h3 h4
  obtain ⟨o1,o2,o3,o4,o5,o6⟩:=h.ok
  have hl:=h.low
  exact ⟨p,rfl,hb,⟨by omega,by omega,by omega,by omega,by omega,o6⟩,h.gs⟩
theorem Zvw {w:World} {p:GP} {nn nr id:Int} {F T:List (Int × Value)} (h:GS w p nn nr [(id,.agg #[.int .i64 id,.slice none 0 0,.slice none 0 0])] [] F T) :
  Calls Tryz.prog 19 #[p.val] w fun e w'=>∃ za zc ra rc,e=.returned (.agg #[.slice za 1 zc,.slice ra 0 rc,.int .i64 nn,.int .i64 nr])∧Below w.heap.size w w':=by
 refine (Zxr h w.heap.size (Nat.le_refl _) [⟨id,[],[]⟩] [] ⟨by simp,by simp,by simp [Ze4],by simp [Ze4],Zhc _,Zk4,?_,by simp,by simp⟩ (by simp) (by simp)).mono ?_
 ·intro n hn
  simp only [List.mem_cons,List.not_mem_nil,or_false] at hn
  subst hn
  exact ⟨_,List.mem_cons_self,none,0,none,0,rfl,⟨Nat.le_refl _,by omega⟩,.inl rfl,⟨none,0,rfl,Nat.le_refl _,by omega,.inl rfl⟩⟩
 ·rintro e w' ⟨v,rfl,⟨nv,rv,rfl,⟨za,zc,rfl,_⟩,⟨ra,rc,rfl,_⟩⟩,hb⟩
  exact ⟨za,zc,ra,rc,rfl,hb⟩
set_option maxRecDepth 100000 in
set_option maxHeartbeats 16000000 in
theorem Zvx (w:World) (hE:Env w):Calls Tryz.prog 10 #[] w fun e w'=>e=.returned (.bool true)∧Below w.heap.size w w':=by
 have HE:=Zb hE
 have h3:=hE.room
 have i0:I64 0:=Zhn (by omega) (by omega)
 have i1:I64 1:=Zhn (by omega) (by omega)
 have i2:I64 2:=Zhn (by omega) (by omega)
 clear hE
 go_enter Tryz.func10,Tryz.ntmps10
 go_wp2_with fail
 refine (Zro w HE.out).mono ?_
 rintro e w1 ⟨p,rfl,hb1,hok,hg1⟩
 have HB1:=Zb hb1
 have HOK:=Zb hok
 have HG1:=Zb hg1
 have hs1:w.heap.size≤w1.heap.size:=hb1.size
 clear hb1 hok hg1
 unfold GP.val
 go_wp2_with fail
 generalize hW2:World.alloc _ _=W2
 have HB2:Hid (Below w1.heap.size w1 W2):=by rw [← hW2];exact ((Below.refl _ _).alloc (Nat.le_refl _) _).alloc (by simp) _
 have HL2:Hid (Rec W2 w1.heap.size #[.string ⟨#[66]⟩,.string ⟨#[65]⟩] 9):=by rw [← hW2];exact (Zl _ _ _).alloc _
 have HP2:Hid (Rec W2 (w1.heap.size+1) #[.string ⟨#[107]⟩,.int .i64 2,.bool false,.int .i64 1,.string ⟨#[]⟩,.slice none 0 0,.slice none 0 0] 79):=by
  rw [← hW2]
  have:=Zl (w1.alloc (.cells #[.string ⟨#[66]⟩,.string ⟨#[65]⟩] 9)) #[.string ⟨#[107]⟩,.int .i64 2,.bool false,.int .i64 1,.string ⟨#[]⟩,.slice none 0 0,.slice none 0 0] 79
  rwa [show (w1.alloc (.cells #[.string ⟨#[66]⟩,.string ⟨#[65]⟩] 9)).heap.size=w1.heap.size+1 by simp] at this
 clear hW2
 have HE2:=Zb ((HE.out.below HB1.out h3).below HB2.out (by omega))
 have hs2:w1.heap.size≤W2.heap.size:=HB2.out.size
 have HA2:=Zb (Zjg (HG1.out.below HB2.out) w.heap.size HOK.out (by omega) [⟨#[66]⟩,⟨#[65]⟩] (some ⟨w1.heap.size,0,none⟩) 2 (.slice (some ⟨w1.heap.size+1,0,none⟩) 1 1) (fun _ _=>True) ⟨_,_,_,rfl⟩ (by simp) (by simp) (by omega)
  (fun i x hx=>⟨w1.heap.size,0,rfl,HL2.out.lt,by
   match i,hx with
   | 0,hx=>simp at hx;subst hx;exact HL2.out.cell 0 rfl
   | 1,hx=>simp at hx;subst hx;exact HL2.out.cell 1 rfl
   | i+2,hx=>simp at hx⟩)
  (by
   have h:=Zgx [⟨#[66]⟩,⟨#[65]⟩] W2.heap.size (some ⟨w1.heap.size,0,none⟩) 2 W2 (Nat.le_refl _) (.inr ⟨w1.heap.size,0,rfl,HL2.out.lt,fun i hi=>by
    match i,hi with
    | 0,_=>exact ⟨HL2.out.cell 0 rfl,by unfold maxLen;decide⟩
    | 1,_=>exact ⟨HL2.out.cell 1 rfl,by unfold maxLen;decide⟩
    | i+2,hi=>exact absurd hi (Nat.not_lt.2 (Nat.le_add_left 2 i))⟩) (by simp) (by omega) (by intro x hx;simp at hx;rcases hx with rfl | rfl<;>decide) HE2.out HE2.out.room
   rwa [Zx3] at h)
  (fun W hW=>by
   have hp:Zdw W.heap.size W (w1.heap.size+1) 0 (⟨#[107]⟩,tK):=by
    have hr:=HP2.out.below hW HP2.out.lt
    exact ⟨hr.cell 0 rfl,by unfold maxLen;decide,_,_,_,_,_,_,⟨hr.cell 1 rfl,hr.cell 2 rfl,hr.cell 3 rfl,hr.cell 4 rfl,hr.cell 5 rfl,hr.cell 6 rfl⟩,Zur _ _⟩
   have h:=Zgs (.slice (some ⟨w1.heap.size+1,0,none⟩) 1 1) [(⟨#[107]⟩,tK)] W.heap.size W (Nat.le_refl _) (Nat.le_trans HE2.out.room hW.size) ⟨_,1,rfl,by simp,by omega,.inr ⟨w1.heap.size+1,0,rfl,Nat.lt_of_lt_of_le HP2.out.lt hW.size,fun i q hq=>by
    match i,hq with
    | 0,hq=>simp at hq;subst hq;exact hp
    | i+1,hq=>simp at hq⟩⟩ (by intro q hq;simp at hq;subst hq;exact ⟨by decide,Zmh⟩) (HE2.out.below hW HE2.out.room)
   rwa [Zq7] at h)
  (fun W hW=>by
   have hp:Zdw W.heap.size W (w1.heap.size+1) 0 (⟨#[107]⟩,tK):=by
    have hr:=HP2.out.below hW HP2.out.lt
    exact ⟨hr.cell 0 rfl,by unfold maxLen;decide,_,_,_,_,_,_,⟨hr.cell 1 rfl,hr.cell 2 rfl,hr.cell 3 rfl,hr.cell 4 rfl,hr.cell 5 rfl,hr.cell 6 rfl⟩,Zur _ _⟩
   exact (Zwq ⟨#[107]⟩ tK (w1.heap.size+1) 0 1 W.heap.size W (Nat.le_refl _) (Nat.lt_of_lt_of_le HP2.out.lt hW.size) (by omega) (by omega) hp Zx2 (HE2.out.below hW HE2.out.room) Zmh Jai).mono fun e w' ⟨_,_,_,_,_,_,h1,_,_,h4⟩=>⟨_,_,_,h1,trivial,h4⟩)
  i0 (by omega) (by omega) (by simp) (by simp))
 unfold GP.val at HA2
 refine HA2.out.mono ?_
 rintro e w3 ⟨rfl,la,ln,lc,pa,pn,pc,hg3,hb3,_,_,_⟩
 have HG3:=Zb hg3
 have HB3:Hid (Below w.heap.size w w3):=(HB1.out.trans (HB2.out.mono hs1)).trans hb3
 have HE3:=Zb (HE.out.below HB3.out h3)
 clear hg3 hb3 HA2 HP2 HL2 HB2 HE2
 simp only [List.nil_append,Int.zero_add] at HG3
 obtain ⟨n0,hn0⟩:∃ v,v=Value.agg #[.int .i64 0,.slice la ln lc,.slice pa pn pc]:=⟨_,rfl⟩
 have HV0:Hid (Zgk n0):=⟨_,_,_,_,_,_,_,hn0⟩
 rw [← hn0] at HG3
 clear hn0
 have HA3:=Zb (Zjg HG3.out w.heap.size HOK.out HB3.out.size [] none 0 (.slice none 0 0) (fun _ v=>v=.slice none 0 0) ⟨_,_,_,rfl⟩ (by simp) (by simp) (by omega) (fun i x hx=>by simp at hx)
  (Zgx [] w3.heap.size none 0 w3 (Nat.le_refl _) (.inl rfl) (by simp) (by omega) (by simp) HE3.out HE3.out.room)
  (fun W hW=>Zkw HE3.out hW) (fun W hW=>Zus W) i1 (by omega) (by omega) (by simp) (by simp))
 unfold GP.val at HA3
 go_wp2_with fail
 refine HA3.out.mono ?_
 rintro e w4 ⟨rfl,la2,ln2,lc2,pa2,pn2,pc2,hg4,hb4,_,hnil,_,hpn⟩
 obtain ⟨rfl,rfl,rfl⟩:=hnil (by simp [Zdt,Zku,Zfb,Zg0])
 rw [hpn] at hg4
 have HG4:=Zb hg4
 have HB4:=Zb (HB3.out.trans hb4)
 have HE4:=Zb (HE.out.below HB4.out h3)
 clear hg4 hb4 HA3 hnil hpn HG3 HB3 HE3
 simp only [List.cons_append,List.nil_append,show (1:Int)+1=2 from rfl] at HG4
 obtain ⟨n1,hn1⟩:∃ v,v=Value.agg #[.int .i64 1,.slice none 0 0,.slice none 0 0]:=⟨_,rfl⟩
 have HV1:Hid (Zgk n1):=⟨_,_,_,_,_,_,_,hn1⟩
 have HN1:=Zb hn1
 rw [← hn1] at HG4
 clear hn1
 have hu2:Zg1 [(0,n0),(1,n1)]:=Zyq (by simp)
 have hv2:∀ q ∈ [((0:Int),n0),(1,n1)],Zgk q.2:=fun q hq=>by simp at hq;rcases hq with rfl | rfl<;>first | exact HV0.out | exact HV1.out
 have HU2:=Zb (And.intro hu2 hv2)
 have o4:p.g<w4.heap.size∧p.n<w4.heap.size∧p.r<w4.heap.size∧p.f<w4.heap.size∧p.t<w4.heap.size:=⟨HG4.out.obj.lt,HG4.out.n.lt,HG4.out.r.lt,HG4.out.f.lt,HG4.out.t.lt⟩
 have HO4:=Zb o4
 have hz4:w.heap.size≤w4.heap.size:=HB4.out.size
 clear hu2 hv2 o4
 have HA4:=Zb (Zt3 HG4.out w.heap.size HOK.out HB4.out.size HU2.out.1 Zk4 HU2.out.2 (by simp) 0 1 ⟨#[84]⟩ (.slice none 0 0) (fun _ _=>True) ⟨_,_,_,rfl⟩ i0 i1 (by simp [Zdy]) (by simp [Zdy]) (fun W hW=>Zpj HE4.out hW) (fun W hW=>Zkw HE4.out hW) (fun W hW=>(Zou 0 0 W).mono fun e w' ⟨h1,h2⟩=>⟨_,_,_,h1,trivial,h2⟩) i0 (by omega) (by omega) (by simp) (by simp) (by simp) (by simp))
 unfold GP.val at HA4
 go_wp2_with fail
 refine HA4.out.mono ?_
 rintro e w5 ⟨rfl,ra,rn,rc,fv,tv,hg5,hfr,⟨bb,hbb,htr,hfb⟩,hb5⟩
 obtain ⟨Y,yc,rfl,hY1,hy1,hy2,hyc,hyz,hyo⟩:=Zvv hfr
 obtain ⟨Z,zc,rfl,hZ1,hz1,hz2,hzc,hzz,hzo⟩:=Zvv htr
 have hYZ:Y<Z:=Nat.lt_of_lt_of_le (hfb Y hyo) hZ1
 have HG5:=Zb hg5
 have HB5:=Zb (HB4.out.trans hb5)
 have HE5:=Zb (HE.out.below HB5.out h3)
 have HYc:=Zb (And.intro hyc hyz)
 have HZc:=Zb (And.intro hzc hzz)
 clear hg5 hb5 hfr htr hfb HA4 hyo hzo hyc hyz hzc hzz HG4 HB4 HE4
 simp only [List.nil_append,Int.zero_add] at HG5
 obtain ⟨r0,hr0⟩:∃ v,v=Value.agg #[.int .i64 0,.int .i64 0,.int .i64 1,.string ⟨#[84]⟩,.slice ra rn rc]:=⟨_,rfl⟩
 have HR0:=Zb hr0
 rw [← hr0] at HG5
 have HVr:Hid (∀ q ∈ [((0:Int),r0)],Zrp q.2):=fun q hq=>by simp at hq;subst hq;exact ⟨_,_,_,_,_,_,_,hr0⟩
 clear hr0
 have HA5:=Zb (Znm HG5.out HU2.out.1 (Zhc _) HU2.out.2 HVr.out 0 2 ⟨#[84]⟩ (.slice none 0 0) ⟨_,_,_,rfl⟩ i0 i2 (by simp [Zdy]) (by simp [Zdy]) (fun W hW=>Zpj HE5.out hW) (fun W hW=>Zkw HE5.out hW))
 unfold GP.val at HA5
 go_wp2_with fail
 refine HA5.out.mono ?_
 rintro e w6 ⟨rfl,hb6⟩
 have HG6:=Zb (HG5.out.below hb6)
 have HB56:=Zb hb6
 clear hb6 HA5
 have HA6:=Zb (Zk2 HG6.out HU2.out.1 (Zhc _) HU2.out.2 HVr.out 0 i0 (by simp [Zdy]) (some ⟨Y,0,none⟩) none 1 yc 0 0 (Zvu i0) (Zgp i0 (by simp)) (by omega) (by omega) (by omega))
 unfold GP.val at HA6
 go_wp2_with fail
 refine HA6.out.mono ?_
 rintro e w7 ⟨rfl,hb7⟩
 have HG7:=Zb (HG6.out.below hb7)
 have HB57:=Zb (Za HB56.out hb7)
 clear hb7 HA6 HG6 HB56 HG5
 have HB7:Hid (Below w.heap.size w w7):=HB5.out.trans (HB57.out.mono HB5.out.size)
 have hw5:Y<w5.heap.size∧Z<w5.heap.size:=⟨Zab HYc.out.1,Zab HZc.out.1⟩
 have HA7:=Zb (Zym HG7.out w.heap.size HOK.out HB7.out.size HU2.out.1 (Zhc _) HU2.out.2 HVr.out 0 0 1 ⟨#[84]⟩ ra rn rc i0 i0 i1 (by simp [Zdy]) [] [] 0 (by rw [HR0.out];rfl) (fun a q hq e=>by
   match a,hq with
   | 0,_=>rfl
   | a+1,hq=>simp at hq) (fun W hW=>by
  have hb:=Za HB57.out hW
  have oo:=HO4.out
  have hB4:=HB5.out.size
  exact Zqd (HG7.out.below hW) w.heap.size HOK.out (Nat.le_trans HB7.out.size hW.size) 0 0 1 ⟨#[84]⟩ ra rn rc i0 i1 0 0 Y Z 0 0 yc zc rfl rfl (fun a q hq e=>by
   match a,hq with
   | 0,_=>rfl
   | a+1,hq=>simp at hq) (fun a q hq e=>by
   match a,hq with
   | 0,_=>rfl
   | a+1,hq=>simp at hq) ((hb.cell (p:=⟨Y,0,none⟩) hw5.1).trans HYc.out.1) ((hb.frozen (p:=⟨Y,0,none⟩) hw5.1).trans HYc.out.2) ((hb.cell (p:=⟨Z,0,none⟩) hw5.2).trans HZc.out.1) ((hb.frozen (p:=⟨Z,0,none⟩) hw5.2).trans HZc.out.2) ⟨hy1,hy2⟩ ⟨hz1,hz2⟩ (by have:=HO4.out;refine ⟨?_,?_,?_,?_,?_,?_⟩<;>omega) (by have:=HO4.out;refine ⟨?_,?_,?_,?_,?_,?_⟩<;>omega) (by omega)))
 unfold GP.val at HA7
 go_wp2_with fail
 refine HA7.out.mono ?_
 rintro e w8 ⟨rfl,hg8,hb8⟩
 have HG8:=Zb hg8
 have HB8:=Zb (HB7.out.trans hb8)
 clear hg8 hb8 HA7 HG7 HB7 HB57 HYc HZc
 simp only [List.eraseIdx_zero,List.tail_cons] at HG8
 have HA8:=Zb (Zvn HG8.out w.heap.size HOK.out HB8.out.size HU2.out.1 Zk4 HU2.out.2 (by simp) 0 i0 (by simp [Zdy]) none none 0 0 0 0 (Zgp i0 (by simp)) (Zgp i0 (by simp)) rfl rfl 0 n0 rfl (fun a q hq e=>by
   match a,hq with
   | 0,_=>rfl
   | 1,hq=>simp at hq;subst hq;simp at e
   | a+2,hq=>simp at hq))
 unfold GP.val at HA8
 go_wp2_with fail
 refine HA8.out.mono ?_
 rintro e w9 ⟨rfl,hg9,hb9⟩
 have HB9:=Zb (HB8.out.trans hb9)
 simp only [List.eraseIdx_zero,List.tail_cons] at hg9
 rw [HN1.out] at hg9
 have HA9:=Zb (Zvw hg9)
 unfold GP.val at HA9
 clear hg9 hb9 HA8 HG8 HB8
 go_wp2_with fail
 refine HA9.out.mono ?_
 rintro e w10 ⟨za,zc,ra,rc,rfl,hb10⟩
 have HB10:=Zb (HB9.out.trans (hb10.mono HB9.out.size))
 clear hb10 HA9 HB9
 go_upto_region 12 with fail
 generalize hW11:World.alloc _ _=W11
 have HB11:Hid (Below w.heap.size w W11):=by rw [← hW11];exact HB10.out.alloc HB10.out.size _
 have HR11:Hid (Rec W11 w10.heap.size #[.slice za 1 zc,.slice ra 0 rc,.int .i64 2,.int .i64 1] 25):=by rw [← hW11];exact Zl _ _ _
 clear hW11
 have t0:=HR11.out.cell 0 rfl
 have t2:=HR11.out.cell 2 rfl
 have t3:=HR11.out.cell 3 rfl
 go_wp2_with fail
 go_ret
 exact ⟨rfl,HB11.out⟩
end
section
open Go.ChangeShapes Go.WideShapes Go.ChangeAt Go.RowKit Go.Shelf Go.Deep
set_option linter.all false
theorem Zso  : Tryz.prog.cellsOf 79=7:=by kernel_rfl
theorem Zsp  : Tryz.prog.cellsOf 45=1:=by kernel_rfl
section
variable {H:Type} {enc:TypeId × Value→H} {W:World}
end
end
