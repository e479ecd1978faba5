/- AddNode: a node is added to a graph that is there. -/
import Derived.Test.YteddjlbfbpecjaaGreatDoorJoin7
import Derived.Test.YteddjlbfbpecjaaGreatDoorJoin8
namespace Go.Proofs.YteddjlbfbpecjaaGreatDoor
open Go.RowKit Go.Shelf
set_option linter.unusedVariables false
set_option linter.unusedSimpArgs false
attribute [local go_sem] Oper.semAt_some
def onceN  : Nat→List ByteArray→List ByteArray
 | 0,_=>[]
 | _+1,[]=>[]
 | n+1,x::r=>x::onceN n (afterB x r)
def onceB (ks:List ByteArray):List ByteArray:=onceN ks.length ks
theorem after_len (x:ByteArray) (r:List ByteArray):(afterB x r).length≤r.length:=(List.dropWhile_sublist _).length_le
theorem onceN_any  : ∀ (n m:Nat) (ks:List ByteArray),ks.length≤n→ks.length≤m→onceN n ks=onceN m ks
 | n,m,[],_,_=>by cases n<;>cases m<;>rfl
 | n+1,m+1,x::r,h1,h2=>by
  have:=after_len x r
  simp only [List.length_cons] at h1 h2
  simp only [onceN,onceN_any n m (afterB x r) (by omega) (by omega)]
theorem onceB_cons (x:ByteArray) (r:List ByteArray):onceB (x::r)=x::onceB (afterB x r):=by
 have:=after_len x r
 unfold onceB
 simp only [List.length_cons,onceN]
 rw [onceN_any r.length (afterB x r).length (afterB x r) this (Nat.le_refl _)]
theorem onceB_len (ks:List ByteArray):(onceB ks).length≤ks.length:=by
 have:∀ n ks,(onceN n ks).length≤n:=by
  intro n
  induction n with
  | zero=>intro ks;simp [onceN]
  | succ n ih =>
   intro ks
   cases ks with
   | nil=>simp [onceN]
   | cons x r=>simp only [onceN,List.length_cons];have:=ih (afterB x r);omega
 exact this _ _
def LeftAt (W:World) (lo g:Nat) (ks:List ByteArray):Prop:=∃ a c,Rec W g #[.slice a ks.length c] 44∧TextsAt W lo g a ks∧ks.length≤c∧c≤9223372036854775807
theorem LeftAt.rest {W:World} {lo g:Nat} {ks:List ByteArray} (h:LeftAt W lo g ks):Rest W lo g W ks:=⟨h,rfl,fun _ _=>rfl,Below.refl _ _⟩
theorem LeftAt.keep {W W':World} {lo g:Nat} {ks:List ByteArray} (h:LeftAt W lo g ks) (hk:∀ i,lo≤i→i≤g→W'.heap[i]?=W.heap[i]?) (hl:lo≤g):LeftAt W' lo g ks:=by
 obtain ⟨a,c,h1,h2,h3⟩:=h
 refine ⟨a,c,h1.keep (hk g hl (Nat.le_refl _)),h2.imp id fun ⟨b,off,e,hb,hc⟩=>⟨b,off,e,hb,fun i x hx=>(World.cell?_of_block (hk b hb.1 (Nat.le_of_lt hb.2))).trans (hc i x hx)⟩,h3⟩
structure AnJ (w V:World) (p:GP) (nn nr:Int) (N R F T:List (Int × Value)) (X lo g:Nat) (pa:Option Addr) (pn pc:Nat) (done rest:List ByteArray) (W:World):Prop where
 gs:GS W p nn nr N R F T
 node:∃ la lc,Rec W X #[.int .i64 nn,.slice la done.length lc,.slice pa pn pc] 47∧W.ownsRow (g+1) 9 1 (.slice la done.length lc) done.length (done.map Value.string)∧(done=[]→la=none∧lc=0)
 left:LeftAt W lo g rest
 below:Below w.heap.size w W
 room:g<W.heap.size
 far:∀ b,w.heap.size≤b→b<lo→b≠X→W.heap[b]?=V.heap[b]?
 old:p.g<w.heap.size∧p.n<w.heap.size∧p.r<w.heap.size∧p.f<w.heap.size∧p.t<w.heap.size
def NextTo (lo g:Nat) (ks:List ByteArray) (W:World) (v:ByteArray) (b:Bool) (w':World):Prop:=(ks=[]∧b=false∧w'=W)∨∃ x r,ks=x::r∧v=x∧b=true∧Rest W lo g w' (afterB x r)
theorem next_any {W:World} {lo g:Nat} {ks:List ByteArray} (h:LeftAt W lo g ks):Calls Tryz.prog 138 #[.pointer (some ⟨g,0,none⟩)] W fun e w'=>∃ v b,e=.returned (.tuple #[.string v,.bool b])∧NextTo lo g ks W v b w':=by
 cases ks with
 | nil =>
  obtain ⟨a,c,hr,_⟩:=h
  exact (next_none g a c W hr).mono fun e w' ⟨h1,h2⟩=>⟨_,_,h1,.inl ⟨rfl,rfl,h2⟩⟩
 | cons x r=>exact (next_some lo g x r W h.rest).mono fun e w' ⟨h1,h2⟩=>⟨_,_,h1,.inr ⟨x,r,rfl,rfl,rfl,h2⟩⟩
def moreN  : Value→Nat
 | .bool true=>1
 | _=>0
def AnI (w V:World) (p:GP) (nn nr:Int) (N R F T:List (Int × Value)) (X lo g:Nat) (pa:Option Addr) (pn pc:Nat) (S:List ByteArray) (l m:Value) (wr:World):Prop :=
 ∃ done rest,AnJ w V p nn nr N R F T X lo g pa pn pc done rest wr∧((m=.bool false∧(∃ s,l=.string s)∧done=S)∨∃ x,l=.string x∧m=.bool true∧done++x::onceB rest=S)
theorem AnJ.next {w V:World} {p:GP} {nn nr:Int} {N R F T:List (Int × Value)} {X lo g:Nat} {pa:Option Addr} {pn pc:Nat} {done rest:List ByteArray} {W w':World} {v:ByteArray} {b:Bool} {S:List ByteArray}
  (h:AnJ w V p nn nr N R F T X lo g pa pn pc done rest W) (hn:NextTo lo g rest W v b w') (hS:done++onceB rest=S) (hX:X<lo) (hl:lo≤g) (hw:w.heap.size≤X):AnI w V p nn nr N R F T X lo g pa pn pc S (.string v) (.bool b) w'∧(lenAt w' g+moreN (.bool b)=0∨lenAt w' g+moreN (.bool b)≤rest.length):=by
 rcases hn with ⟨rfl,rfl,rfl⟩ | ⟨x,r,rfl,rfl,rfl,hr⟩
 ·refine ⟨⟨done,[],h,.inl ⟨rfl,⟨v,rfl⟩,by simpa [onceB,onceN] using hS⟩⟩,.inl ?_⟩
  obtain ⟨a,c,h1,_⟩:=h.left
  rw [lenAt_of h1];rfl
 ·rw [onceB_cons] at hS
  refine ⟨⟨done,afterB v r,⟨?_,?_,hr.at_,?_,by rw [hr.size];exact h.room,fun b h1 h2 h3=>(hr.other b (by omega)).trans (h.far b h1 h2 h3),h.old⟩,.inr ⟨v,rfl,rfl,hS⟩⟩,.inr ?_⟩
  ·exact ⟨h.gs.obj.keep (hr.other _ (by have:=h.old;omega)),h.gs.n.block (hr.other _ (by have:=h.old;omega)),h.gs.r.block (hr.other _ (by have:=h.old;omega)),h.gs.f.block (hr.other _ (by have:=h.old;omega)),h.gs.t.block (hr.other _ (by have:=h.old;omega))⟩
  ·obtain ⟨la,lc,h1,h2,h3⟩:=h.node
   exact ⟨la,lc,h1.keep (hr.other _ (by omega)),row_keep h2 fun i hi _=>hr.other i (by omega),h3⟩
  ·exact h.below.trans (hr.below.mono (by omega))
  ·obtain ⟨a,c,h1,_⟩:=hr.at_
   rw [lenAt_of h1]
   have:=after_len v r
   simp only [moreN,List.length_cons]
   omega
def AddK (w:World) (K:World→Value→Prop) (v:Value) (w':World):Prop:=∃ V X,KB K V v∧w.heap.size≤X∧Rec V X #[.int .i64 0,.slice none 0 0,.slice none 0 0] 47∧Below w.heap.size w V∧V.heap.size≤w'.heap.size∧∀ b,w.heap.size≤b→b<V.heap.size→b≠X→w'.heap[b]?=V.heap[b]?
set_option maxRecDepth 100000 in
set_option maxHeartbeats 8000000 in
theorem addNode_okF {w:World} {p:GP} {nn nr:Int} {N R F T:List (Int × Value)} (h:GS w p nn nr N R F T) (B:Nat) (hok:p.Ok B) (hB:B≤w.heap.size)
  (ks:List ByteArray) (a:Option Addr) (cap:Nat) (pv:Value) (K:World→Value→Prop) (hpv:∃ a n c,pv=.slice a n c)
  (hks:ks.length≤2000000) (hcap:ks.length≤cap) (hcap2:cap≤9223372036854775807) (hat:TextsIn w.heap.size w a ks)
  (ha:Calls Tryz.prog 85 #[.slice a ks.length cap] w fun e w'=>e=.returned (.bool true)∧Below w.heap.size w w')
  (hs:∀ W,Below w.heap.size w W→Calls Tryz.prog 86 #[pv] W fun e w'=>e=.returned (.bool true)∧Below W.heap.size W w')
  (hk:∀ W,Below w.heap.size w W→Calls Tryz.prog 88 #[pv] W fun e w'=>∃ a n c,e=.returned (.slice a n c)∧K w' (.slice a n c)∧Below W.heap.size W w')
  (hnn:I64 nn) (hnn1:nn<4611686018427387904) (hnn0:0≤nn) (hnew:∀ q ∈ N,q.1≠nn) (hsz:N.length+R.length<65536) :
  Calls Tryz.prog 30 #[p.val,.slice a ks.length cap,pv] w fun e w'=>e=.returned (.tuple #[.int .i64 nn,.int .i64 0])∧∃ la ln lc pa pn pc,GS w' p (nn+1) nr (N++[(nn,.agg #[.int .i64 nn,.slice la ln lc,.slice pa pn pc])]) R F T∧Below B w w'∧w'.ownsRow w.heap.size 9 1 (.slice la ln lc) (onceB (sortB ks)).length ((onceB (sortB ks)).map Value.string)∧(onceB (sortB ks)=[]→la=none∧ln=0∧lc=0)∧AddK w K (.slice pa pn pc) w':=by
 obtain ⟨qa,qn,qc,rfl⟩:=hpv
 have hsl:(sortB ks).length≤2000000:=by rw [sortB_len];exact hks
 obtain ⟨S,hSS⟩:∃ S,onceB (sortB ks)=S:=⟨_,rfl⟩
 have hSl:S.length≤2000000:=by rw [← hSS];exact Nat.le_trans (onceB_len _) hsl
 rw [hSS]
 have HSS:=hidE hSS
 clear hSS hsl
 have HG:=hidE h
 have HK:=hidE hk
 have HS:=hidE hs
 have HA:=hidE ha
 have HT:=hidE hat
 have HTh:=hidE (there_yes h)
 have HOK:=hidE hok
 have HNEW:=hidE hnew
 clear h hk hs ha hat hok hnew
 unfold GP.val at HTh ⊢
 go_enter Tryz.func30,Tryz.ntmps30
 go_wp2_with fail
 refine HTh.out.mono ?_
 rintro e w1 ⟨rfl,hw1⟩
 rw [hw1]
 clear hw1 HTh
 go_wp2_with fail
 refine HA.out.mono ?_
 rintro e w2 ⟨rfl,hb2⟩
 have HB2:=hidE hb2
 clear hb2 HA
 go_wp2_with fail
 refine (HS.out w2 HB2.out).mono ?_
 rintro e w3 ⟨rfl,hb3⟩
 have HB3:=hidE (below_on HB2.out hb3)
 clear hb3 HS
 have HG3:=hidE (HG.out.below HB3.out)
 have HFu:=hidE (full_not HG3.out hsz nn hnn1)
 unfold GP.val at HFu
 have c2:=HG3.out.c2
 go_wp2_with fail
 refine HFu.out.mono ?_
 rintro e w4 ⟨rfl,hb4⟩
 have HB4:=hidE (below_on HB3.out hb4)
 have HG4:=hidE (HG.out.below HB4.out)
 clear hb4 c2 HFu HG3 HB3 HB2
 go_upto_region 7 with fail
 show (Code.region 7 RAN7 true).wp _ _ _ _
 refine regionAN7 p nn (.slice qa qn qc) w4.heap.size K _ _ _ rfl ⟨rfl,rfl⟩ ?_ ?_
 ·intro W hW
  exact ⟨(hW.cell (p:=⟨p.g,2,none⟩) HG4.out.obj.lt).trans HG4.out.c2,hW.size,HK.out W (below_on HB4.out hW)⟩
 rintro c W5 hS hB5 ⟨pa,pn,pc,e40,hkb⟩ ⟨X,e8,hX,hr5⟩
 have HKV:Hid (KB K W5 (.slice pa pn pc)∧w.heap.size≤X∧Rec W5 X #[.int .i64 0,.slice none 0 0,.slice none 0 0] 47∧Below w.heap.size w W5):=⟨hkb,Nat.le_trans HB4.out.size hX,hr5,below_on HB4.out hB5⟩
 clear hkb
 obtain ⟨W6,hrun,hput⟩:=store47 c.eval X W5 _ _ _ nn pa pn pc hr5 e8 e40
 refine ⟨W6,hrun,?_⟩
 clear hrun
 rw [same_put hS [33,34,35,36,37,38,39,40,8] (by kernel_rfl)]
 obtain ⟨y33,q33⟩:∃ y,c.eval (.tmp 33)=y:=⟨_,rfl⟩
 obtain ⟨y34,q34⟩:∃ y,c.eval (.tmp 34)=y:=⟨_,rfl⟩
 obtain ⟨y35,q35⟩:∃ y,c.eval (.tmp 35)=y:=⟨_,rfl⟩
 obtain ⟨y36,q36⟩:∃ y,c.eval (.tmp 36)=y:=⟨_,rfl⟩
 obtain ⟨y37,q37⟩:∃ y,c.eval (.tmp 37)=y:=⟨_,rfl⟩
 obtain ⟨y38,q38⟩:∃ y,c.eval (.tmp 38)=y:=⟨_,rfl⟩
 obtain ⟨y39,q39⟩:∃ y,c.eval (.tmp 39)=y:=⟨_,rfl⟩
 obtain ⟨y40,q40⟩:∃ y,c.eval (.tmp 40)=y:=⟨_,rfl⟩
 obtain ⟨y8,q8⟩:∃ y,c.eval (.tmp 8)=y:=⟨_,rfl⟩
 simp only [List.foldl_cons,List.foldl_nil,q33,q34,q35,q36,q37,q38,q39,q40,q8]
 rw [e8] at q8
 rw [e40] at q40
 subst q8 q40
 clear e8 e40 hS
 have hX5:X<W5.heap.size:=hr5.lt
 have HB6:Hid (Below w.heap.size w W6):=(HB4.out.trans (hB5.mono HB4.out.size)).trans (hput.below.mono (Nat.le_trans HB4.out.size hX))
 have HG6:Hid (GS W6 p nn nr N R F T):=HG.out.below HB6.out
 have HR6:=hidE hput.r
 have hs6:X<W6.heap.size:=hput.r.lt
 have HV6:Hid (W5.heap.size≤W6.heap.size∧∀ b,w.heap.size≤b→b<W6.heap.size→b≠X→W6.heap[b]?=W5.heap[b]?):=⟨hput.below.size,fun b _ _ h=>hput.other b h⟩
 have hX0:w.heap.size≤X:=Nat.le_trans HB4.out.size hX
 clear hput hr5 hB5 hX5 hX HB4 HG4 HK
 clear q33 q34 q35 q36 q37 q38 q39
 simp only [List.setIfInBounds_toArray,List.set_cons_succ,List.set_cons_zero]
 have HE:=hidE (eachOnce_any ks (by omega) a cap W6 hcap ((HT.out.below HB6.out).mono HB6.out.size))
 go_wp2_with fail
 refine HE.out.mono ?_
 rintro e w7 ⟨g,rfl,hg7,hl7,hz7,hb7⟩
 have HJ7:Hid (AnJ w W5 p nn nr N R F T X W6.heap.size g pa pn pc [] (sortB ks) w7) :=
  ⟨HG6.out.below hb7,⟨none,0,HR6.out.below hb7 hs6,World.ownsRow_nil _ _ _ _,fun _=>⟨rfl,rfl⟩⟩,hl7.at_,HB6.out.trans (hb7.mono HB6.out.size),by omega,fun b h1 h2 h3=>(hb7.block b h2).trans (HV6.out.2 b h1 h2 h3),HG.out.obj.lt,HG.out.n.lt,HG.out.r.lt,HG.out.f.lt,HG.out.t.lt⟩
 have hlo:X<W6.heap.size:=hs6
 obtain ⟨lo,hlo'⟩:∃ lo,W6.heap.size=lo:=⟨_,rfl⟩
 have hv6:W5.heap.size≤lo:=by rw [← hlo'];exact HV6.out.1
 have HVL:=hidE hv6
 clear hv6 HV6
 rw [hlo'] at HJ7 hlo hg7
 clear hl7 hz7 hb7 HE HG6 HR6 hs6 hlo' HB6 HT
 have HN7:=hidE (next_any HJ7.out.left)
 go_wp2_with fail
 refine HN7.out.mono ?_
 rintro e w8 ⟨v8,b8,rfl,hn8⟩
 have HI8:=hidE (HJ7.out.next (S:=S) hn8 (by rw [List.nil_append];exact HSS.out) hlo hg7 hX0).1
 clear hn8 HN7 HJ7 HSS
 go_wp2_with fail
 go_loopw [10,11] (fun l m wr=>AnI w W5 p nn nr N R F T X lo g pa pn pc S l m wr) (fun _ m wr=>lenAt wr g+moreN m)
 case atStart=>exact HI8.out
 case round =>
  obtain ⟨done,rest,hJ,⟨rfl,⟨s,rfl⟩,hdone⟩ | ⟨x,rfl,rfl,hd⟩⟩:=hrel
  ·have HJ:=hidE hJ
   have HD:=hidE hdone
   obtain ⟨la,lc,hn1,hn2,hn3⟩:=hJ.node
   have HN3':=hidE hn3
   clear hn3
   have HN1:=hidE hn1
   have HN2:=hidE hn2
   clear hJ hdone hn1 hn2 HI8
   obtain ⟨ln,hln⟩:∃ ln,done.length=ln:=⟨_,rfl⟩
   rw [hln] at HN1 HN2
   have HLN:=hidE hln
   clear hln
   go_upto_region 13 with fail
   show (Code.region 13 RAN13 true).wp _ _ _ _
   refine regionAN13 p nn X la pa ln lc pn pc _ _ _ rfl ⟨rfl,rfl⟩ ?_ ?_
   ·intro W hW
    exact ⟨(hW.cell (p:=⟨p.g,0,none⟩) HJ.out.gs.obj.lt).trans HJ.out.gs.c0,(hW.cell (p:=⟨X,0,none⟩) HN1.out.lt).trans (HN1.out.cell 0 rfl),(hW.cell (p:=⟨X,1,none⟩) HN1.out.lt).trans (HN1.out.cell 1 rfl),(hW.cell (p:=⟨X,2,none⟩) HN1.out.lt).trans (HN1.out.cell 2 rfl)⟩
   intro c W9 hS hB9 e64 e66 e67
   obtain ⟨W10,hup,hmi,hs10,ho10,hb10⟩:=mi_new Tryz.underlying68' (HJ.out.gs.n.below hB9 (Nat.le_refl _)) nn (.agg #[.int .i64 nn,.slice la ln lc,.slice pa pn pc]) hnn HNEW.out
   refine ⟨W10,?_,?_⟩
   ·generalize c.eval=ρ at *
    clear hS hmi ho10 hb10
    go_simp
   rw [same_put hS [60,61,62,63,64,65,66,67] (by kernel_rfl)]
   obtain ⟨y60,q60⟩:∃ y,c.eval (.tmp 60)=y:=⟨_,rfl⟩
   obtain ⟨y61,q61⟩:∃ y,c.eval (.tmp 61)=y:=⟨_,rfl⟩
   obtain ⟨y62,q62⟩:∃ y,c.eval (.tmp 62)=y:=⟨_,rfl⟩
   obtain ⟨y63,q63⟩:∃ y,c.eval (.tmp 63)=y:=⟨_,rfl⟩
   obtain ⟨y64,q64⟩:∃ y,c.eval (.tmp 64)=y:=⟨_,rfl⟩
   obtain ⟨y65,q65⟩:∃ y,c.eval (.tmp 65)=y:=⟨_,rfl⟩
   obtain ⟨y66,q66⟩:∃ y,c.eval (.tmp 66)=y:=⟨_,rfl⟩
   obtain ⟨y67,q67⟩:∃ y,c.eval (.tmp 67)=y:=⟨_,rfl⟩
   simp only [List.foldl_cons,List.foldl_nil,q60,q61,q62,q63,q64,q65,q66,q67]
   clear q60 q61 q62 q63 q64 q65 q66 q67 hS e64 e66 e67 hup
   simp only [List.setIfInBounds_toArray,List.set_cons_succ,List.set_cons_zero]
   obtain ⟨o1,o2,o3,o4,o5,n1,n2,n3,n4,n5,n6,n7,n8,n9,n10⟩:=HOK.out
   obtain ⟨u1,u2,u3,u4,u5⟩:=HJ.out.old
   have HG9:=hidE (HJ.out.gs.below hB9)
   have HG10:Hid (GS W10 p nn nr (N++[(nn,.agg #[.int .i64 nn,.slice la ln lc,.slice pa pn pc])]) R F T) :=
    ⟨HG9.out.obj.keep (ho10 _ n1),hmi,HG9.out.r.block (ho10 _ (Ne.symm n5)),HG9.out.f.block (ho10 _ (Ne.symm n6)),HG9.out.t.block (ho10 _ (Ne.symm n7))⟩
   have HX10:Hid (Rec W10 X #[.int .i64 nn,.slice la ln lc,.slice pa pn pc] 47):=(HN1.out.below hB9 HN1.out.lt).keep (ho10 _ (by omega))
   have HRow10:Hid (W10.ownsRow (g+1) 9 1 (.slice la ln lc) ln (done.map Value.string)):=row_keep HN2.out fun i hi hl=>(ho10 i (by omega)).trans (hB9.block i hl)
   have HFA:Hid (∀ b,w.heap.size≤b→b<W5.heap.size→b≠X→W10.heap[b]?=W5.heap[b]?):=fun b h1 h2 h3=>by
    have h4:b<lo:=Nat.lt_of_lt_of_le h2 HVL.out
    exact (ho10 b (by omega)).trans ((hB9.block b (by have:=HJ.out.room;omega)).trans (HJ.out.far b h1 h4 h3))
   have HZ10:Hid (W5.heap.size≤W10.heap.size):=by
    show _≤_
    have h1:=HVL.out
    have h2:=HJ.out.room
    have h3:=hB9.size
    have h4:=hb10.size
    omega
   have HB10:Hid (Below B w W10):=(HJ.out.below.mono hB).trans ((hB9.mono (by have:=HJ.out.below.size;omega)).trans (hb10.mono o2))
   clear hmi ho10 hb10 hs10 hB9 HG9
   have c2:=HG10.out.c2
   have z2:=HG10.out.obj.z 2
   have hwr:IntKind.i64.wrap (nn+1)=nn+1:=by rw [IntKind.wrap_i64];omega
   go_upto_region 15 with fail
   generalize hW11:World.setCell _ _ _=W11
   have HX11:Hid (Rec W11 X #[.int .i64 nn,.slice la ln lc,.slice pa pn pc] 47):=by rw [← hW11];exact HX10.out.other (by omega)
   have HG11:Hid (GS W11 p (nn+1) nr (N++[(nn,.agg #[.int .i64 nn,.slice la ln lc,.slice pa pn pc])]) R F T):=by
    rw [← hW11]
    refine ⟨?_,HG10.out.n.block (Below.heap_setCell _ _ _ _ (Ne.symm n1)),HG10.out.r.block (Below.heap_setCell _ _ _ _ (Ne.symm n2)),HG10.out.f.block (Below.heap_setCell _ _ _ _ (Ne.symm n3)),HG10.out.t.block (Below.heap_setCell _ _ _ _ (Ne.symm n4))⟩
    have:=HG10.out.obj.set 2 (.int .i64 (nn+1))
    simpa [GP.cells] using this
   have HB11:Hid (Below B w W11):=by rw [← hW11];exact HB10.out.setCell (p:=⟨p.g,2,none⟩) o1 _
   have HRow11:Hid (W11.ownsRow (g+1) 9 1 (.slice la ln lc) ln (done.map Value.string)):=by
    rw [← hW11]
    exact row_keep HRow10.out fun i hi _=>Below.heap_setCell _ _ _ _ (by show i≠p.g;omega)
   have HFB:Hid (W5.heap.size≤W11.heap.size∧∀ b,w.heap.size≤b→b<W5.heap.size→b≠X→W11.heap[b]?=W5.heap[b]?):=by
    rw [← hW11]
    exact ⟨by simp [World.setCell];exact HZ10.out,fun b h1 h2 h3=>(Below.heap_setCell _ _ _ _ (by show b≠p.g;omega)).trans (HFA.out b h1 h2 h3)⟩
   clear hW11 c2 z2
   have x0:=HX11.out.cell 0 rfl
   go_wp2_with fail
   go_ret2
   refine ⟨rfl,la,ln,lc,pa,pn,pc,HG11.out,HB11.out,?_,fun he=>?_,W5,X,HKV.out.1,HKV.out.2.1,HKV.out.2.2.1,HKV.out.2.2.2,HFB.out⟩
   ·have:=row_base HRow11.out (show w.heap.size≤g+1 by omega)
    rw [HD.out] at this
    rw [← HLN.out,HD.out] at this ⊢
    exact this
   have he':done=[]:=by rw [HD.out];exact he
   exact ⟨(HN3'.out he').1,by rw [← HLN.out,he'];rfl,(HN3'.out he').2⟩
  ·have HJ:=hidE hJ
   have HD:=hidE hd
   obtain ⟨la,lc,hn1,hn2,_⟩:=hJ.node
   have HN1:=hidE hn1
   have HN2:=hidE hn2
   have x1:=hn1.cell 1 rfl
   have hrm:=hJ.room
   have hdl:done.length+1≤2000000:=by
    have:=congrArg List.length hd
    simp only [List.length_append,List.length_cons] at this
    omega
   clear hJ hd hn1 hn2 HI8
   obtain ⟨i0,hi,hz0,hz1,hz2⟩:=info_parts Tryz.info9
   obtain ⟨ln,hln⟩:∃ ln,done.length=ln:=⟨_,rfl⟩
   rw [hln] at HN1 HN2 hdl
   replace x1:wr.cell? ⟨X,1,none⟩=some (.slice la ln lc):=HN1.out.cell 1 rfl
   have HLN:=hidE hln
   clear hln
   go_wp2_with (at_builtin;refine wpList_append_own _ rfl _ _ 44 rfl (g+1) 9 i0 (.string ⟨#[]⟩) 1 16 Tryz.underlying44 hi hz0 hz1 hz2 rfl (by decide) _ _ _ rfl (row_keep HN2.out fun g _ hg=>Below.heap_alloc _ _ _ hg) ⟨wr.heap.size,0,none⟩ 1 1 [.string x] rfl rfl ?d1 ?d2 ?d3 ?d4 ?d5 ?_)
   case d1 =>
    intro j u hj
    have hadd:(⟨wr.heap.size,0,none⟩:Addr).add j=⟨wr.heap.size,j,none⟩:=by unfold Addr.add;split<;>simp_all
    rw [hadd]
    refine cell_new _ _ _ _ _ ?_
    simpa using hj
   case d2=>intro u hu;simp only [List.mem_cons,List.not_mem_nil,or_false] at hu;subst hu;rfl
   case d3=>unfold maxLen;omega
   case d4=>omega
   case d5=>first | omega | (simp;omega)
   intro v3 w3 hown3 hgrow3 _
   obtain ⟨ub,ud,rfl⟩:=row_slice hown3
   have hb3:Below (g+1) wr w3:=((Below.refl _ wr).alloc (by omega) _).trans (row_grown (row_keep HN2.out fun g _ hg=>Below.heap_alloc _ _ _ hg) (by simp;omega) hgrow3)
   have HB3:=hidE hb3
   have HO3:=hidE hown3
   have HN3:=hidE (HN1.out.below hb3 (by omega))
   have y1:=HN3.out.cell 1 rfl
   have fy:=HN3.out.z 1
   have hs3:=hb3.size
   clear hown3 hgrow3 hb3 x1
   go_upto_region 11 with fail
   generalize hW4:World.setCell _ _ _=W4
   have HJ4:Hid (AnJ w W5 p nn nr N R F T X lo g pa pn pc (done++[x]) rest W4):=by
    obtain ⟨u1,u2,u3,u4,u5⟩:=HJ.out.old
    have hkk:∀ i,i<g+1→i≠X→W4.heap[i]?=wr.heap[i]?:=fun i hi hx=>by
     rw [← hW4]
     exact (Below.heap_setCell _ _ _ _ hx).trans (HB3.out.block i hi)
    refine ⟨⟨HJ.out.gs.obj.keep (hkk _ (by omega) (by omega)),HJ.out.gs.n.block (hkk _ (by omega) (by omega)),HJ.out.gs.r.block (hkk _ (by omega) (by omega)),HJ.out.gs.f.block (hkk _ (by omega) (by omega)),HJ.out.gs.t.block (hkk _ (by omega) (by omega))⟩,⟨ub,ud,?_,?_,fun h=>by simp at h⟩,HJ.out.left.keep (fun i h1 h2=>hkk i (by omega) (by omega)) (by omega),?_,?_,fun b h1 h2 h3=>(hkk b (by omega) h3).trans (HJ.out.far b h1 h2 h3),HJ.out.old⟩
    ·rw [← hW4,List.length_append,HLN.out]
     have:=HN3.out.set 1 (.slice ub (ln+1) ud)
     simpa using this
    ·rw [List.length_append,HLN.out,List.map_append]
     exact row_keep HO3.out fun i hi _=>by
      rw [← hW4]
      exact Below.heap_setCell _ _ _ _ (by show i≠X;omega)
    ·rw [← hW4]
     exact (HJ.out.below.trans (HB3.out.mono (by omega))).setCell (p:=⟨X,1,none⟩) hX0 _
    ·rw [← hW4];simp [World.setCell];omega
   have HNX:=hidE (next_any HJ4.out.left)
   have HLR:Hid (lenAt wr g=rest.length):=by
    obtain ⟨a,c,h1,_⟩:=HJ.out.left
    exact lenAt_of h1
   clear hW4 y1 fy HB3 HO3 HN3 hs3 HN1 HN2 HJ HLN
   go_wp2_with fail
   refine HNX.out.mono ?_
   rintro e w5 ⟨v5,b5,rfl,hn5⟩
   obtain ⟨hI5,hm5⟩:=HJ4.out.next (S:=S) hn5 (by rw [List.append_assoc];exact HD.out) hlo hg7 hX0
   have HI5:=hidE hI5
   have HM5:=hidE hm5
   clear hI5 hm5 hn5 HNX HJ4
   go_wp2_with fail
   go_roundw
   case rel=>exact HI5.out
   case measure =>
    rw [HLR.out]
    have e1:moreN (.bool true)=1:=rfl
    rw [e1]
    rcases HM5.out with h | h<;>omega
theorem addNode_ok {w:World} {p:GP} {nn nr:Int} {N R F T:List (Int × Value)} (h:GS w p nn nr N R F T) (B:Nat) (hok:p.Ok B) (hB:B≤w.heap.size)
  (ks:List ByteArray) (a:Option Addr) (cap:Nat) (pv:Value) (K:World→Value→Prop) (hpv:∃ a n c,pv=.slice a n c)
  (hks:ks.length≤2000000) (hcap:ks.length≤cap) (hcap2:cap≤9223372036854775807) (hat:TextsIn w.heap.size w a ks)
  (ha:Calls Tryz.prog 85 #[.slice a ks.length cap] w fun e w'=>e=.returned (.bool true)∧Below w.heap.size w w')
  (hs:∀ W,Below w.heap.size w W→Calls Tryz.prog 86 #[pv] W fun e w'=>e=.returned (.bool true)∧Below W.heap.size W w')
  (hk:∀ W,Below w.heap.size w W→Calls Tryz.prog 88 #[pv] W fun e w'=>∃ a n c,e=.returned (.slice a n c)∧K w' (.slice a n c)∧Below W.heap.size W w')
  (hnn:I64 nn) (hnn1:nn<4611686018427387904) (hnn0:0≤nn) (hnew:∀ q ∈ N,q.1≠nn) (hsz:N.length+R.length<65536) :
  Calls Tryz.prog 30 #[p.val,.slice a ks.length cap,pv] w fun e w'=>e=.returned (.tuple #[.int .i64 nn,.int .i64 0])∧∃ la ln lc pa pn pc,GS w' p (nn+1) nr (N++[(nn,.agg #[.int .i64 nn,.slice la ln lc,.slice pa pn pc])]) R F T∧Below B w w'∧w'.ownsRow w.heap.size 9 1 (.slice la ln lc) (onceB (sortB ks)).length ((onceB (sortB ks)).map Value.string)∧(onceB (sortB ks)=[]→la=none∧ln=0∧lc=0)∧∃ W,K W (.slice pa pn pc) :=
 (addNode_okF h B hok hB ks a cap pv K hpv hks hcap hcap2 hat ha hs hk hnn hnn1 hnn0 hnew hsz).mono fun e w' ⟨h1,la,ln,lc,pa,pn,pc,h2,h3,h4,h5,V,X,⟨W,h6,_⟩,_⟩=>⟨h1,la,ln,lc,pa,pn,pc,h2,h3,h4,h5,W,h6⟩
end Go.Proofs.YteddjlbfbpecjaaGreatDoor
