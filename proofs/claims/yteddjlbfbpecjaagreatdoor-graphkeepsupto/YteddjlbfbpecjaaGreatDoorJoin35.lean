/- The chapter's rows of graphs: what they are made of. The chapter's rows of graphs hold. GraphChecks: the law's own walk. How great a step is: exactly. -/
import Derived.Test.YteddjlbfbpecjaaGreatDoorJoin20
import Derived.Test.YteddjlbfbpecjaaGreatDoorJoin30
import Derived.Test.YteddjlbfbpecjaaGreatDoorJoin14
import Derived.Test.YteddjlbfbpecjaaGreatDoorJoin29
import Derived.Test.YteddjlbfbpecjaaGreatDoorJoin2
import Derived.Test.YteddjlbfbpecjaaGreatDoorJoin17
import Derived.Test.YteddjlbfbpecjaaGreatDoorJoin32
import Derived.Test.YteddjlbfbpecjaaGreatDoorJoin33
import Derived.Test.YteddjlbfbpecjaaGreatDoorJoin34
import Derived.Test.YteddjlbfbpecjaaGreatDoorJoin3
namespace Go.Proofs.YteddjlbfbpecjaaGreatDoor
open Go.RowKit Go.Shelf
set_option linter.unusedVariables false
set_option linter.unusedSimpArgs false
attribute [local go_sem] Oper.semAt_some
def tK  : Tree:=.mk 2 false 1 ⟨#[]⟩ [] []
theorem tK_lies (B:Nat) (w:World):Lies B w (.agg #[.int .i64 2,.bool false,.int .i64 1,.string ⟨#[]⟩,.slice none 0 0,.slice none 0 0]) tK:=by
 unfold tK
 simp only [Lies]
 exact ⟨none,0,none,0,rfl,⟨by unfold maxLen;decide,Nat.le_refl _,Nat.zero_le _,Nat.le_refl _,Nat.zero_le _⟩,Or.inl (by simp),Or.inl (by simp)⟩
theorem tK_modest  : Modest tK:=⟨by decide,by decide⟩
theorem tK_check  : checkN tK=0:=by
 unfold checkN tK
 simp [Tree.pre,Tree.preL,shapedB,heavy,blankB,Lib.validD]
 rw [if_pos (by decide),if_neg (by decide)]
theorem tK_full  : sameB tK nullT=false:=by
 have h:(ordT tK nullT==0)=false:=by
  unfold tK nullT ordT
  have e:cmpI (rankN 2) (rankN 0)≠0:=by decide
  rw [if_neg e]
  simpa using e
 unfold sameB
 rw [h,Bool.and_false]
theorem tK_total  : tK.total≤2000000:=by decide
theorem names_BA  : namesB [⟨#[66]⟩,⟨#[65]⟩]=true:=by decide
theorem name_T  : nameOk (⟨#[84]⟩:ByteArray).data.toList=true:=by decide
theorem name_k  : nameOk (⟨#[107]⟩:ByteArray).data.toList=true:=by decide
theorem prop_k  : propB (⟨#[107]⟩,tK)=true:=by
 have h1:storB tK=true:=by decide
 unfold propB
 simp only
 rw [name_k,tK_check,h1]
 simp
theorem settable_k  : settableB [(⟨#[107]⟩,tK)]=true:=by
 unfold settableB keysOnce
 simp [prop_k,seenAdd]
theorem settable_none  : settableB []=true:=by
 unfold settableB keysOnce
 simp
theorem props_none (B:Nat) (w:World):PropsLie B w (.slice none 0 0) []:=⟨none,0,rfl,Nat.le_refl _,by decide,.inl rfl⟩
theorem set_none {w W:World} (hE:Env w) (hb:Below w.heap.size w W):Calls Tryz.prog 86 #[.slice none 0 0] W fun e w'=>e=.returned (.bool true)∧Below W.heap.size W w':=by
 have h:=settable_any (.slice none 0 0) [] W.heap.size W (Nat.le_refl _) (Nat.le_trans hE.room hb.size) (props_none _ _) (by simp) (hE.below hb hE.room)
 rwa [settable_none] at h
theorem keep_none (W:World):Calls Tryz.prog 88 #[.slice none 0 0] W fun e w'=>∃ a n c,e=.returned (.slice a n c)∧(Value.slice a n c=.slice none 0 0)∧Below W.heap.size W w' :=
 (kept_nil 0 0 W).mono fun e w' ⟨h1,h2⟩=>⟨none,0,0,h1,rfl,h2⟩
theorem name_yes {w W:World} (hE:Env w) (hb:Below w.heap.size w W):Calls Tryz.prog 90 #[.string ⟨#[84]⟩] W fun e w'=>e=.returned (.bool true)∧Below W.heap.size W w':=by
 have h:=name_any ⟨#[84]⟩ (by decide) W (hE.below hb hE.room)
 rwa [name_T] at h
end Go.Proofs.YteddjlbfbpecjaaGreatDoor

namespace Go.Proofs.YteddjlbfbpecjaaGreatDoor
open Go.RowKit Go.Shelf
set_option linter.unusedVariables false
set_option linter.unusedSimpArgs false
attribute [local go_sem] Oper.semAt_some
theorem uniq_nil  : Uniq []:=fun p hp=>by cases hp
theorem uniq_one (a:Int × Value):Uniq [a]:=fun p hp q hq _=>by simp at hp hq;rw [hp,hq]
theorem uniq_two {a b:Int × Value} (h:a.1≠b.1):Uniq [a,b]:=fun p hp q hq e=>by
 simp at hp hq
 rcases hp with rfl | rfl<;>rcases hq with rfl | rfl
 ·rfl
 ·exact absurd e h
 ·exact absurd e.symm h
 ·rfl
theorem looks_hit {b:Nat} {k:Int} {a:Option Addr} {n c:Nat} (hk:I64 k):Looks b [(k,.slice a n c)] k a n c:=fun W hW =>
 (mi_hit (z:=.slice none 0 0) Tryz.underlying72' hW k _ hk (by simp) (fun q hq e=>by simp at hq;rw [hq])).2
theorem looks_miss {b:Nat} {es:List (Int × Value)} {k:Int} (hk:I64 k) (h:∀ q ∈ es,q.1≠k):Looks b es k none 0 0:=fun W hW=>(mi_miss Tryz.underlying72' zero100 hW k hk h).2
theorem row_one {W:World} {base:Nat} {v:Value} {id:Int} (h:W.ownsRow base 2 1 v 1 [.int .i64 id]):∃ Y c,v=.slice (some ⟨Y,0,none⟩) 1 c∧base≤Y∧1≤c∧c≤9223372036854775807∧W.cell? ⟨Y,0,none⟩=some (.int .i64 id)∧W.frozen? ⟨Y,0,none⟩=false∧v.ownBlock=some Y:=by
 have h':=h
 rcases h.2 with ⟨_,h0⟩ | ⟨gb,gc,cur,h1,hbase,hgb,r1,r2,r3,r4⟩
 ·simp at h0
 ·subst h1
  refine ⟨gb,gc,rfl,hbase,r1,by unfold maxLen at r2;omega,?_,by simp [World.frozen?,hgb],rfl⟩
  have:=h'.cells (g:=gb) rfl 0 (.int .i64 id) rfl
  have hadd:(⟨gb,0,none⟩:Addr).add 0=⟨gb,0,none⟩:=by unfold Addr.add;split<;>simp_all
  rwa [hadd] at this
theorem make_zero2 (w:World) (hE:Env w):Calls Tryz.prog 13 #[.agg #[.slice none 0 0,.slice none 0 0,.int .i64 0,.int .i64 0]] w fun e w'=>∃ p:GP,e=.returned (.tuple #[p.val,.int .i64 0])∧Below w.heap.size w w'∧p.Ok w.heap.size∧GS w' p 0 0 [] [] [] []:=by
 have hg:GraphLies w.heap.size w (.agg #[.slice none 0 0,.slice none 0 0,.int .i64 0,.int .i64 0]) ⟨[],[],0,0⟩:=⟨none,0,none,0,rfl,⟨none,0,rfl,Nat.le_refl _,by omega,.inl rfl⟩,⟨none,0,rfl,Nat.le_refl _,by omega,.inl rfl⟩⟩
 refine (make_any ⟨[],[],0,0⟩ w.heap.size _ w (Nat.le_refl _) hE hg ⟨by simp,by simp,by simp,by simp⟩ ⟨by simp,by simp⟩ ⟨by simp,by simp⟩ (by simp) (by simp) (by simp)).mono ?_
 intro e w' hm
 cases hm with
 | no hc hb=>exact absurd hc (by decide)
 | yes hc p hm hb =>
  obtain ⟨B,lo,N,R,F,T,h⟩:=hm
  have h1:N=[]:=List.eq_nil_of_length_eq_zero h.nodes.1
  have h2:R=[]:=List.eq_nil_of_length_eq_zero h.rels.1
  have h3:F=[]:=List.eq_nil_of_length_eq_zero h.fr.1
  have h4:T=[]:=List.eq_nil_of_length_eq_zero h.tt.1
  subst h1 h2 h3 h4
  obtain ⟨o1,o2,o3,o4,o5,o6⟩:=h.ok
  have hl:=h.low
  exact ⟨p,rfl,hb,⟨by omega,by omega,by omega,by omega,by omega,o6⟩,h.gs⟩
theorem Tell_one2 {w:World} {p:GP} {nn nr id:Int} {F T:List (Int × Value)} (h:GS w p nn nr [(id,.agg #[.int .i64 id,.slice none 0 0,.slice none 0 0])] [] F T) :
  Calls Tryz.prog 19 #[p.val] w fun e w'=>∃ za zc ra rc,e=.returned (.agg #[.slice za 1 zc,.slice ra 0 rc,.int .i64 nn,.int .i64 nr])∧Below w.heap.size w w':=by
 refine (Tell_any h w.heap.size (Nat.le_refl _) [⟨id,[],[]⟩] [] ⟨by simp,by simp,by simp [sortI],by simp [sortI],uniq_one _,uniq_nil,?_,by simp,by simp⟩ (by simp) (by simp)).mono ?_
 ·intro n hn
  simp only [List.mem_cons,List.not_mem_nil,or_false] at hn
  subst hn
  exact ⟨_,List.mem_cons_self,none,0,none,0,rfl,⟨Nat.le_refl _,by omega⟩,.inl rfl,⟨none,0,rfl,Nat.le_refl _,by omega,.inl rfl⟩⟩
 ·rintro e w' ⟨v,rfl,⟨nv,rv,rfl,⟨za,zc,rfl,_⟩,⟨ra,rc,rfl,_⟩⟩,hb⟩
  exact ⟨za,zc,ra,rc,rfl,hb⟩
set_option maxRecDepth 100000 in
set_option maxHeartbeats 16000000 in
theorem known_any (w:World) (hE:Env w):Calls Tryz.prog 10 #[] w fun e w'=>e=.returned (.bool true)∧Below w.heap.size w w':=by
 have HE:=hidE hE
 have h3:=hE.room
 have i0:I64 0:=i64_of (by omega) (by omega)
 have i1:I64 1:=i64_of (by omega) (by omega)
 have i2:I64 2:=i64_of (by omega) (by omega)
 clear hE
 go_enter Tryz.func10,Tryz.ntmps10
 go_wp2_with fail
 refine (make_zero2 w HE.out).mono ?_
 rintro e w1 ⟨p,rfl,hb1,hok,hg1⟩
 have HB1:=hidE hb1
 have HOK:=hidE hok
 have HG1:=hidE hg1
 have hs1:w.heap.size≤w1.heap.size:=hb1.size
 clear hb1 hok hg1
 unfold GP.val
 go_wp2_with fail
 generalize hW2:World.alloc _ _=W2
 have HB2:Hid (Below w1.heap.size w1 W2):=by rw [← hW2];exact ((Below.refl _ _).alloc (Nat.le_refl _) _).alloc (by simp) _
 have HL2:Hid (Rec W2 w1.heap.size #[.string ⟨#[66]⟩,.string ⟨#[65]⟩] 9):=by rw [← hW2];exact (rec_new _ _ _).alloc _
 have HP2:Hid (Rec W2 (w1.heap.size+1) #[.string ⟨#[107]⟩,.int .i64 2,.bool false,.int .i64 1,.string ⟨#[]⟩,.slice none 0 0,.slice none 0 0] 79):=by
  rw [← hW2]
  have:=rec_new (w1.alloc (.cells #[.string ⟨#[66]⟩,.string ⟨#[65]⟩] 9)) #[.string ⟨#[107]⟩,.int .i64 2,.bool false,.int .i64 1,.string ⟨#[]⟩,.slice none 0 0,.slice none 0 0] 79
  rwa [show (w1.alloc (.cells #[.string ⟨#[66]⟩,.string ⟨#[65]⟩] 9)).heap.size=w1.heap.size+1 by simp] at this
 clear hW2
 have HE2:=hidE ((HE.out.below HB1.out h3).below HB2.out (by omega))
 have hs2:w1.heap.size≤W2.heap.size:=HB2.out.size
 have HA2:=hidE (addNode_ok (HG1.out.below HB2.out) w.heap.size HOK.out (by omega) [⟨#[66]⟩,⟨#[65]⟩] (some ⟨w1.heap.size,0,none⟩) 2 (.slice (some ⟨w1.heap.size+1,0,none⟩) 1 1) (fun _ _=>True) ⟨_,_,_,rfl⟩ (by simp) (by simp) (by omega)
  (fun i x hx=>⟨w1.heap.size,0,rfl,HL2.out.lt,by
   match i,hx with
   | 0,hx=>simp at hx;subst hx;exact HL2.out.cell 0 rfl
   | 1,hx=>simp at hx;subst hx;exact HL2.out.cell 1 rfl
   | i+2,hx=>simp at hx⟩)
  (by
   have h:=allNames_any [⟨#[66]⟩,⟨#[65]⟩] W2.heap.size (some ⟨w1.heap.size,0,none⟩) 2 W2 (Nat.le_refl _) (.inr ⟨w1.heap.size,0,rfl,HL2.out.lt,fun i hi=>by
    match i,hi with
    | 0,_=>exact ⟨HL2.out.cell 0 rfl,by unfold maxLen;decide⟩
    | 1,_=>exact ⟨HL2.out.cell 1 rfl,by unfold maxLen;decide⟩
    | i+2,hi=>exact absurd hi (Nat.not_lt.2 (Nat.le_add_left 2 i))⟩) (by simp) (by omega) (by intro x hx;simp at hx;rcases hx with rfl | rfl<;>decide) HE2.out HE2.out.room
   rwa [names_BA] at h)
  (fun W hW=>by
   have hp:PropAt W.heap.size W (w1.heap.size+1) 0 (⟨#[107]⟩,tK):=by
    have hr:=HP2.out.below hW HP2.out.lt
    exact ⟨hr.cell 0 rfl,by unfold maxLen;decide,_,_,_,_,_,_,⟨hr.cell 1 rfl,hr.cell 2 rfl,hr.cell 3 rfl,hr.cell 4 rfl,hr.cell 5 rfl,hr.cell 6 rfl⟩,tK_lies _ _⟩
   have h:=settable_any (.slice (some ⟨w1.heap.size+1,0,none⟩) 1 1) [(⟨#[107]⟩,tK)] W.heap.size W (Nat.le_refl _) (Nat.le_trans HE2.out.room hW.size) ⟨_,1,rfl,by simp,by omega,.inr ⟨w1.heap.size+1,0,rfl,Nat.lt_of_lt_of_le HP2.out.lt hW.size,fun i q hq=>by
    match i,hq with
    | 0,hq=>simp at hq;subst hq;exact hp
    | i+1,hq=>simp at hq⟩⟩ (by intro q hq;simp at hq;subst hq;exact ⟨by decide,tK_modest⟩) (HE2.out.below hW HE2.out.room)
   rwa [settable_k] at h)
  (fun W hW=>by
   have hp:PropAt W.heap.size W (w1.heap.size+1) 0 (⟨#[107]⟩,tK):=by
    have hr:=HP2.out.below hW HP2.out.lt
    exact ⟨hr.cell 0 rfl,by unfold maxLen;decide,_,_,_,_,_,_,⟨hr.cell 1 rfl,hr.cell 2 rfl,hr.cell 3 rfl,hr.cell 4 rfl,hr.cell 5 rfl,hr.cell 6 rfl⟩,tK_lies _ _⟩
   exact (kept_one ⟨#[107]⟩ tK (w1.heap.size+1) 0 1 W.heap.size W (Nat.le_refl _) (Nat.lt_of_lt_of_le HP2.out.lt hW.size) (by omega) (by omega) hp tK_total (HE2.out.below hW HE2.out.room) tK_modest tK_full).mono fun e w' ⟨_,_,_,_,_,_,h1,_,_,h4⟩=>⟨_,_,_,h1,trivial,h4⟩)
  i0 (by omega) (by omega) (by simp) (by simp))
 unfold GP.val at HA2
 refine HA2.out.mono ?_
 rintro e w3 ⟨rfl,la,ln,lc,pa,pn,pc,hg3,hb3,_,_,_⟩
 have HG3:=hidE hg3
 have HB3:Hid (Below w.heap.size w w3):=(HB1.out.trans (HB2.out.mono hs1)).trans hb3
 have HE3:=hidE (HE.out.below HB3.out h3)
 clear hg3 hb3 HA2 HP2 HL2 HB2 HE2
 simp only [List.nil_append,Int.zero_add] at HG3
 obtain ⟨n0,hn0⟩:∃ v,v=Value.agg #[.int .i64 0,.slice la ln lc,.slice pa pn pc]:=⟨_,rfl⟩
 have HV0:Hid (NodeV n0):=⟨_,_,_,_,_,_,_,hn0⟩
 rw [← hn0] at HG3
 clear hn0
 have HA3:=hidE (addNode_ok HG3.out w.heap.size HOK.out HB3.out.size [] none 0 (.slice none 0 0) (fun _ v=>v=.slice none 0 0) ⟨_,_,_,rfl⟩ (by simp) (by simp) (by omega) (fun i x hx=>by simp at hx)
  (allNames_any [] w3.heap.size none 0 w3 (Nat.le_refl _) (.inl rfl) (by simp) (by omega) (by simp) HE3.out HE3.out.room)
  (fun W hW=>set_none HE3.out hW) (fun W hW=>keep_none W) i1 (by omega) (by omega) (by simp) (by simp))
 unfold GP.val at HA3
 go_wp2_with fail
 refine HA3.out.mono ?_
 rintro e w4 ⟨rfl,la2,ln2,lc2,pa2,pn2,pc2,hg4,hb4,_,hnil,_,hpn⟩
 obtain ⟨rfl,rfl,rfl⟩:=hnil (by simp [sortB,sortL,onceB,onceN])
 rw [hpn] at hg4
 have HG4:=hidE hg4
 have HB4:=hidE (HB3.out.trans hb4)
 have HE4:=hidE (HE.out.below HB4.out h3)
 clear hg4 hb4 HA3 hnil hpn HG3 HB3 HE3
 simp only [List.cons_append,List.nil_append,show (1:Int)+1=2 from rfl] at HG4
 obtain ⟨n1,hn1⟩:∃ v,v=Value.agg #[.int .i64 1,.slice none 0 0,.slice none 0 0]:=⟨_,rfl⟩
 have HV1:Hid (NodeV n1):=⟨_,_,_,_,_,_,_,hn1⟩
 have HN1:=hidE hn1
 rw [← hn1] at HG4
 clear hn1
 have hu2:Uniq [(0,n0),(1,n1)]:=uniq_two (by simp)
 have hv2:∀ q ∈ [((0:Int),n0),(1,n1)],NodeV q.2:=fun q hq=>by simp at hq;rcases hq with rfl | rfl<;>first | exact HV0.out | exact HV1.out
 have HU2:=hidE (And.intro hu2 hv2)
 have o4:p.g<w4.heap.size∧p.n<w4.heap.size∧p.r<w4.heap.size∧p.f<w4.heap.size∧p.t<w4.heap.size:=⟨HG4.out.obj.lt,HG4.out.n.lt,HG4.out.r.lt,HG4.out.f.lt,HG4.out.t.lt⟩
 have HO4:=hidE o4
 have hz4:w.heap.size≤w4.heap.size:=HB4.out.size
 clear hu2 hv2 o4
 have HA4:=hidE (addRel_ok HG4.out w.heap.size HOK.out HB4.out.size HU2.out.1 uniq_nil HU2.out.2 (by simp) 0 1 ⟨#[84]⟩ (.slice none 0 0) (fun _ _=>True) ⟨_,_,_,rfl⟩ i0 i1 (by simp [hasB]) (by simp [hasB]) (fun W hW=>name_yes HE4.out hW) (fun W hW=>set_none HE4.out hW) (fun W hW=>(kept_nil 0 0 W).mono fun e w' ⟨h1,h2⟩=>⟨_,_,_,h1,trivial,h2⟩) i0 (by omega) (by omega) (by simp) (by simp) (by simp) (by simp))
 unfold GP.val at HA4
 go_wp2_with fail
 refine HA4.out.mono ?_
 rintro e w5 ⟨rfl,ra,rn,rc,fv,tv,hg5,hfr,⟨bb,hbb,htr,hfb⟩,hb5⟩
 obtain ⟨Y,yc,rfl,hY1,hy1,hy2,hyc,hyz,hyo⟩:=row_one hfr
 obtain ⟨Z,zc,rfl,hZ1,hz1,hz2,hzc,hzz,hzo⟩:=row_one htr
 have hYZ:Y<Z:=Nat.lt_of_lt_of_le (hfb Y hyo) hZ1
 have HG5:=hidE hg5
 have HB5:=hidE (HB4.out.trans hb5)
 have HE5:=hidE (HE.out.below HB5.out h3)
 have HYc:=hidE (And.intro hyc hyz)
 have HZc:=hidE (And.intro hzc hzz)
 clear hg5 hb5 hfr htr hfb HA4 hyo hzo hyc hyz hzc hzz HG4 HB4 HE4
 simp only [List.nil_append,Int.zero_add] at HG5
 obtain ⟨r0,hr0⟩:∃ v,v=Value.agg #[.int .i64 0,.int .i64 0,.int .i64 1,.string ⟨#[84]⟩,.slice ra rn rc]:=⟨_,rfl⟩
 have HR0:=hidE hr0
 rw [← hr0] at HG5
 have HVr:Hid (∀ q ∈ [((0:Int),r0)],RelV q.2):=fun q hq=>by simp at hq;subst hq;exact ⟨_,_,_,_,_,_,_,hr0⟩
 clear hr0
 have HA5:=hidE (addRel_none HG5.out HU2.out.1 (uniq_one _) HU2.out.2 HVr.out 0 2 ⟨#[84]⟩ (.slice none 0 0) ⟨_,_,_,rfl⟩ i0 i2 (by simp [hasB]) (by simp [hasB]) (fun W hW=>name_yes HE5.out hW) (fun W hW=>set_none HE5.out hW))
 unfold GP.val at HA5
 go_wp2_with fail
 refine HA5.out.mono ?_
 rintro e w6 ⟨rfl,hb6⟩
 have HG6:=hidE (HG5.out.below hb6)
 have HB56:=hidE hb6
 clear hb6 HA5
 have HA6:=hidE (drop_attached HG6.out HU2.out.1 (uniq_one _) HU2.out.2 HVr.out 0 i0 (by simp [hasB]) (some ⟨Y,0,none⟩) none 1 yc 0 0 (looks_hit i0) (looks_miss i0 (by simp)) (by omega) (by omega) (by omega))
 unfold GP.val at HA6
 go_wp2_with fail
 refine HA6.out.mono ?_
 rintro e w7 ⟨rfl,hb7⟩
 have HG7:=hidE (HG6.out.below hb7)
 have HB57:=hidE (below_on HB56.out hb7)
 clear hb7 HA6 HG6 HB56 HG5
 have HB7:Hid (Below w.heap.size w w7):=HB5.out.trans (HB57.out.mono HB5.out.size)
 have hw5:Y<w5.heap.size∧Z<w5.heap.size:=⟨lt_of_cell HYc.out.1,lt_of_cell HZc.out.1⟩
 have HA7:=hidE (drop_rel HG7.out w.heap.size HOK.out HB7.out.size HU2.out.1 (uniq_one _) HU2.out.2 HVr.out 0 0 1 ⟨#[84]⟩ ra rn rc i0 i0 i1 (by simp [hasB]) [] [] 0 (by rw [HR0.out];rfl) (fun a q hq e=>by
   match a,hq with
   | 0,_=>rfl
   | a+1,hq=>simp at hq) (fun W hW=>by
  have hb:=below_on HB57.out hW
  have oo:=HO4.out
  have hB4:=HB5.out.size
  exact detach_one (HG7.out.below hW) w.heap.size HOK.out (Nat.le_trans HB7.out.size hW.size) 0 0 1 ⟨#[84]⟩ ra rn rc i0 i1 0 0 Y Z 0 0 yc zc rfl rfl (fun a q hq e=>by
   match a,hq with
   | 0,_=>rfl
   | a+1,hq=>simp at hq) (fun a q hq e=>by
   match a,hq with
   | 0,_=>rfl
   | a+1,hq=>simp at hq) ((hb.cell (p:=⟨Y,0,none⟩) hw5.1).trans HYc.out.1) ((hb.frozen (p:=⟨Y,0,none⟩) hw5.1).trans HYc.out.2) ((hb.cell (p:=⟨Z,0,none⟩) hw5.2).trans HZc.out.1) ((hb.frozen (p:=⟨Z,0,none⟩) hw5.2).trans HZc.out.2) ⟨hy1,hy2⟩ ⟨hz1,hz2⟩ (by have:=HO4.out;refine ⟨?_,?_,?_,?_,?_,?_⟩<;>omega) (by have:=HO4.out;refine ⟨?_,?_,?_,?_,?_,?_⟩<;>omega) (by omega)))
 unfold GP.val at HA7
 go_wp2_with fail
 refine HA7.out.mono ?_
 rintro e w8 ⟨rfl,hg8,hb8⟩
 have HG8:=hidE hg8
 have HB8:=hidE (HB7.out.trans hb8)
 clear hg8 hb8 HA7 HG7 HB7 HB57 HYc HZc
 simp only [List.eraseIdx_zero,List.tail_cons] at HG8
 have HA8:=hidE (drop_node HG8.out w.heap.size HOK.out HB8.out.size HU2.out.1 uniq_nil HU2.out.2 (by simp) 0 i0 (by simp [hasB]) none none 0 0 0 0 (looks_miss i0 (by simp)) (looks_miss i0 (by simp)) rfl rfl 0 n0 rfl (fun a q hq e=>by
   match a,hq with
   | 0,_=>rfl
   | 1,hq=>simp at hq;subst hq;simp at e
   | a+2,hq=>simp at hq))
 unfold GP.val at HA8
 go_wp2_with fail
 refine HA8.out.mono ?_
 rintro e w9 ⟨rfl,hg9,hb9⟩
 have HB9:=hidE (HB8.out.trans hb9)
 simp only [List.eraseIdx_zero,List.tail_cons] at hg9
 rw [HN1.out] at hg9
 have HA9:=hidE (Tell_one2 hg9)
 unfold GP.val at HA9
 clear hg9 hb9 HA8 HG8 HB8
 go_wp2_with fail
 refine HA9.out.mono ?_
 rintro e w10 ⟨za,zc,ra,rc,rfl,hb10⟩
 have HB10:=hidE (HB9.out.trans (hb10.mono HB9.out.size))
 clear hb10 HA9 HB9
 go_upto_region 12 with fail
 generalize hW11:World.alloc _ _=W11
 have HB11:Hid (Below w.heap.size w W11):=by rw [← hW11];exact HB10.out.alloc HB10.out.size _
 have HR11:Hid (Rec W11 w10.heap.size #[.slice za 1 zc,.slice ra 0 rc,.int .i64 2,.int .i64 1] 25):=by rw [← hW11];exact rec_new _ _ _
 clear hW11
 have t0:=HR11.out.cell 0 rfl
 have t2:=HR11.out.cell 2 rfl
 have t3:=HR11.out.cell 3 rfl
 go_wp2_with fail
 go_ret
 exact ⟨rfl,HB11.out⟩
end Go.Proofs.YteddjlbfbpecjaaGreatDoor

namespace Go.Proofs.YteddjlbfbpecjaaGreatDoor
open Go.RowKit Go.Shelf
set_option linter.unusedVariables false
set_option linter.unusedSimpArgs false
attribute [local go_sem] Oper.semAt_some
structure Fit (g:GraphP):Prop where
 bulk:Bulk g
 sized:Sized g
 mild:Mild g
 sane:Sanely g
 nn:-9223372036854775808≤g.nn∧g.nn≤9223372036854775807
 nr:-9223372036854775808≤g.nr∧g.nr≤9223372036854775807
 ends:∀ r ∈ g.rels,I64 r.fr∧I64 r.tt
 ofN:∀ x ∈ g.nodes,x.labels.length≤2000000∧x.props.length≤2000000∧∀ q ∈ x.props,q.2.total≤2000000
 ofR:∀ x ∈ g.rels,x.props.length≤2000000∧∀ q ∈ x.props,q.2.total≤2000000
end Go.Proofs.YteddjlbfbpecjaaGreatDoor

namespace Go.Proofs.YteddjlbfbpecjaaGreatDoor
open Go.RowKit Go.Shelf
set_option linter.unusedVariables false
set_option linter.unusedSimpArgs false
attribute [local go_sem] Oper.semAt_some
def bigB (ln pn:Nat) (key:ByteArray) (T:Tree) (ps:List (ByteArray × Tree)):Bool :=
 decide (12<(ln:Int))||(decide (12<(pn:Int))||(heavyB ps||(decide (200<cntT T)||(decide (5000<bytT T)||decide (1000<(key.size:Int))))))
set_option maxRecDepth 100000 in
set_option maxHeartbeats 4000000 in
theorem big_any (s:St) (T:Tree) (ps:List (ByteArray × Tree)) (B:Nat) (w:World) (hB:B≤w.heap.size) (hv:Lies B w (.agg #[.int .i64 s.vk,.bool s.vb,.int .i64 s.vn,.string s.vs,.slice s.ka s.kn s.kc,.slice s.ya s.yn s.yc]) T) (hp:PropsLie B w (.slice s.pa s.pn s.pc) ps) (hk:s.key.size≤9223372036854775807) (hT:T.total≤2000000) (ht:∀ q ∈ ps,q.2.total≤2000000) :
  Calls Tryz.prog 26 #[s.val] w fun e w'=>e=.returned (.bool (bigB s.ln s.pn s.key T ps))∧Below w.heap.size w w':=by
 have HSZ:=hidE (fun W (h:Below w.heap.size w W)=>refsize_any T B _ W (Nat.le_trans hB h.size) (hv.below (h.mono hB)) hT)
 have HHV:=hidE (fun W (h:Below w.heap.size w W)=>heavy_any _ ps B W (Nat.le_trans hB h.size) (hp.below (h.mono hB)) ht)
 have HCS:Hid (∀ (W:World) (b i:Nat) (v:Value),W.heap[b]?=some (.cells s.cells 62 (0,0))→s.cells[i]?=some v→W.cell? ⟨b,i,none⟩=some v):=fun W b i v h hi=>st_cell h hi
 obtain ⟨k,id,to_,rel,key,la,ln,lc,pa,pn,pc,vk,vb,vn,vs,ka,kn,kc,ya,yn,yc⟩:=s
 clear hv hp hT ht
 unfold St.val St.cells
 unfold St.cells at HCS
 simp only at HCS HSZ HHV hk ⊢
 obtain ⟨res,hres⟩:∃ r,bigB ln pn key T ps=r:=⟨_,rfl⟩
 obtain ⟨hv,hhv⟩:∃ r,heavyB ps=r:=⟨_,rfl⟩
 obtain ⟨ra,hra⟩:∃ r,cntT T=r:=⟨_,rfl⟩
 obtain ⟨rb,hrb⟩:∃ r,hgtT T=r:=⟨_,rfl⟩
 obtain ⟨rc,hrc⟩:∃ r,bytT T=r:=⟨_,rfl⟩
 obtain ⟨rd,hrd⟩:∃ r,lngT T=r:=⟨_,rfl⟩
 rw [hres]
 rw [hra,hrb,hrc,hrd] at HSZ
 rw [hhv] at HHV
 have HR:Hid (res=(decide (12<(ln:Int))||(decide (12<(pn:Int))||(hv||(decide (200<ra)||(decide (5000<rc)||decide (1000<(key.size:Int)))))))):=by
  show _=_
  rw [← hres,bigB,hhv,hra,hrc]
 clear hres hhv hra hrb hrc hrd
 go_enter Tryz.func26,Tryz.ntmps26
 go_upto_region 1 with fail
 generalize hW1:World.alloc _ _=W1
 have HB1:Hid (Below w.heap.size w W1):=by rw [← hW1];exact (Below.refl _ _).alloc (Nat.le_refl _) _
 have HX:Hid (∀ W,Below W1.heap.size W1 W→Below w.heap.size w W∧W.cell? ⟨w.heap.size,4,none⟩=some (.string key)∧W.cell? ⟨w.heap.size,5,none⟩=some (.slice la ln lc)∧W.cell? ⟨w.heap.size,6,none⟩=some (.slice pa pn pc)∧W.cell? ⟨w.heap.size,7,none⟩=some (.int .i64 vk)∧W.cell? ⟨w.heap.size,8,none⟩=some (.bool vb)∧W.cell? ⟨w.heap.size,9,none⟩=some (.int .i64 vn)∧W.cell? ⟨w.heap.size,10,none⟩=some (.string vs)∧W.cell? ⟨w.heap.size,11,none⟩=some (.slice ka kn kc)∧W.cell? ⟨w.heap.size,12,none⟩=some (.slice ya yn yc)):=by
  intro W hb
  have hh:W.heap[w.heap.size]?=some (.cells #[.int .i64 k,.int .i64 id,.int .i64 to_,.bool rel,.string key,.slice la ln lc,.slice pa pn pc,.int .i64 vk,.bool vb,.int .i64 vn,.string vs,.slice ka kn kc,.slice ya yn yc] 62 (0,0)):=by
   rw [hb.block _ (by rw [← hW1];simp),← hW1]
   exact World.alloc_heap_new _ _
  exact ⟨below_on HB1.out hb,HCS.out _ _ _ _ hh rfl,HCS.out _ _ _ _ hh rfl,HCS.out _ _ _ _ hh rfl,HCS.out _ _ _ _ hh rfl,HCS.out _ _ _ _ hh rfl,HCS.out _ _ _ _ hh rfl,HCS.out _ _ _ _ hh rfl,HCS.out _ _ _ _ hh rfl,HCS.out _ _ _ _ hh rfl⟩
 clear hW1 HCS
 obtain ⟨_,c4,c5,c6,c7,c8,c9,c10,c11,c12⟩:=HX.out W1 (Below.refl _ _)
 go_wp2_with fail
 refine (HSZ.out _ HB1.out).mono ?_
 rintro e w2 ⟨rfl,hb2⟩
 have HB2:=hidE (below_on HB1.out hb2)
 have HC2:=hidE hb2
 clear c4 c5 c6 c7 c8 c9 c10 c11 c12 hb2
 obtain ⟨_,c4,c5,c6,_⟩:=HX.out w2 HC2.out
 by_cases g1:12<ln
 ·have g1':(12:Int)<ln:=by omega
  have HF:Hid (res=true):=by
   show _=_
   rw [HR.out,decide_eq_true g1'];rfl
  go_wp2_with fail
  go_ret
  exact ⟨by rw [HF.out];rfl,HB2.out⟩
 ·have g1':¬ (12:Int)<ln:=by omega
  by_cases g2:12<pn
  ·have g2':(12:Int)<pn:=by omega
   have HF:Hid (res=true):=by
    show _=_
    rw [HR.out,decide_eq_false (show ¬ (12:Int)<ln by omega),decide_eq_true g2'];rfl
   go_wp2_with fail
   go_ret
   exact ⟨by rw [HF.out];rfl,HB2.out⟩
  ·have g2':¬ (12:Int)<pn:=by omega
   go_wp2_with fail
   refine (HHV.out _ HB2.out).mono ?_
   rintro e w3 ⟨rfl,hb3⟩
   have HB3:=hidE (below_on HB2.out hb3)
   obtain ⟨_,c4',_⟩:=HX.out w3 (below_on HC2.out hb3)
   clear hb3 c4 c5 c6
   cases hv with
   | true =>
    have HF:Hid (res=true):=by
     show _=_
     rw [HR.out,decide_eq_false (show ¬ (12:Int)<ln by omega),decide_eq_false (show ¬ (12:Int)<pn by omega)];rfl
    go_wp2_with fail
    go_ret
    exact ⟨by rw [HF.out];rfl,HB3.out⟩
   | false =>
    by_cases g3:200<ra
    ·have HF:Hid (res=true):=by
      show _=_
      rw [HR.out,decide_eq_false (show ¬ (12:Int)<ln by omega),decide_eq_false (show ¬ (12:Int)<pn by omega),decide_eq_true g3];rfl
     go_wp2_with fail
     go_ret
     exact ⟨by rw [HF.out];rfl,HB3.out⟩
    ·by_cases g4:5000<rc
     ·have HF:Hid (res=true):=by
       show _=_
       rw [HR.out,decide_eq_false (show ¬ (12:Int)<ln by omega),decide_eq_false (show ¬ (12:Int)<pn by omega),decide_eq_false (show ¬ 200<ra by omega),decide_eq_true g4];rfl
      go_wp2_with fail
      go_ret
      exact ⟨by rw [HF.out];rfl,HB3.out⟩
     ·by_cases g5:1000<key.size
      ·have g5':(1000:Int)<key.size:=by omega
       have HF:Hid (res=true):=by
        show _=_
        rw [HR.out,decide_eq_false (show ¬ (12:Int)<ln by omega),decide_eq_false (show ¬ (12:Int)<pn by omega),decide_eq_false (show ¬ 200<ra by omega),decide_eq_false (show ¬ 5000<rc by omega),decide_eq_true g5'];rfl
       clear HR
       go_wp2_with fail
       go_ret
       exact ⟨by rw [HF.out];rfl,HB3.out⟩
      ·have g5':¬ (1000:Int)<key.size:=by omega
       have HF:Hid (res=false):=by
        show _=_
        rw [HR.out,decide_eq_false (show ¬ (12:Int)<ln by omega),decide_eq_false (show ¬ (12:Int)<pn by omega),decide_eq_false (show ¬ 200<ra by omega),decide_eq_false (show ¬ 5000<rc by omega),decide_eq_false g5'];rfl
       clear HR
       go_wp2_with fail
       go_ret
       refine ⟨?_,HB3.out⟩
       rw [HF.out]
       show Ending.returned (.bool (decide (12<(ln:Int))||decide (12<(pn:Int))||decide (200<ra)||decide (5000<rc)||decide (1000<(key.size:Int))))=_
       rw [decide_eq_false (show ¬ (12:Int)<ln by omega),decide_eq_false (show ¬ (12:Int)<pn by omega),decide_eq_false (show ¬ 200<ra by omega),decide_eq_false (show ¬ 5000<rc by omega),decide_eq_false (show ¬ (1000:Int)<key.size by omega)]
       rfl
end Go.Proofs.YteddjlbfbpecjaaGreatDoor

