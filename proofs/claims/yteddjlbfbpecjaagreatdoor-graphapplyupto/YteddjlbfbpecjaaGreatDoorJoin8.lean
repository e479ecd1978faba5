/- AddNode: a node is added to a graph that is there. -/
import Derived.Test.YteddjlbfbpecjaaGreatDoorJoin6
import Derived.Test.YteddjlbfbpecjaaGreatDoorJoin7
import Derived.Test.YteddjlbfbpecjaaGreatDoorJoin2
import Derived.Maps.AppendAt
namespace Go.Proofs.YteddjlbfbpecjaaGreatDoor
section
open Go.RowKit Go.Shelf
set_option linter.all false
attribute [local go_sem] Oper.semAt_some
def Zg0  : Nat→List ByteArray→List ByteArray
 | 0,_=>[]
 | _+1,[]=>[]
 | n+1,x::r=>x::Zg0 n (Zc2 x r)
def Zfb (ks:List ByteArray):List ByteArray:=Zg0 ks.length ks
theorem Zh3 (x:ByteArray) (r:List ByteArray):(Zc2 x r).length≤r.length:=(List.dropWhile_sublist _).length_le
theorem Zl3  : ∀ (n m:Nat) (ks:List ByteArray),ks.length≤n→ks.length≤m→Zg0 n ks=Zg0 m ks
 | n,m,[],_,_=>by cases n<;>cases m<;>rfl
 | n+1,m+1,x::r,h1,h2=>by
  have:=Zh3 x r
  simp only [List.length_cons] at h1 h2
  simp only [Zg0,Zl3 n m (Zc2 x r) (by omega) (by omega)]
theorem Zq0 (x:ByteArray) (r:List ByteArray):Zfb (x::r)=x::Zfb (Zc2 x r):=by
 have:=Zh3 x r
 unfold Zfb
 simp only [List.length_cons,Zg0]
 rw [Zl3 r.length (Zc2 x r).length (Zc2 x r) this (Nat.le_refl _)]
theorem Zt1 (ks:List ByteArray):(Zfb ks).length≤ks.length:=by
 have:∀ n ks,(Zg0 n ks).length≤n:=by
  intro n
  induction n with
  | zero=>intro ks;simp [Zg0]
  | succ n ih =>
   intro ks
   cases ks with
   | nil=>simp [Zg0]
   | cons x r=>simp only [Zg0,List.length_cons];have:=ih (Zc2 x r);omega
 exact this _ _
def Zh4 (W:World) (lo g:Nat) (ks:List ByteArray):Prop:=∃ a c,Rec W g #[.slice a ks.length c] 44∧Ze8 W lo g a ks∧ks.length≤c∧c≤9223372036854775807
theorem Zh4.rest {W:World} {lo g:Nat} {ks:List ByteArray} (h:Zh4 W lo g ks):Jbb W lo g W ks:=⟨h,rfl,fun _ _=>rfl,Below.refl _ _⟩
theorem Zh4.keep {W W':World} {lo g:Nat} {ks:List ByteArray} (h:Zh4 W lo g ks) (hk:∀ i,lo≤i→i≤g→W'.heap[i]?=W.heap[i]?) (hl:lo≤g):Zh4 W' lo g ks:=by
 obtain ⟨a,c,h1,h2,h3⟩:=h
 refine ⟨a,c,h1.keep (hk g hl (Nat.le_refl _)),h2.imp id fun ⟨b,off,e,hb,hc⟩=>⟨b,off,e,hb,fun i x hx=>(World.cell?_of_block (hk b hb.1 (Nat.le_of_lt hb.2))).trans (hc i x hx)⟩,h3⟩
structure AnJ (w V:World) (p:GP) (nn nr:Int) (N R F T:List (Int × Value)) (X lo g:Nat) (pa:Option Addr) (pn pc:Nat) (done rest:List ByteArray) (W:World):Prop where
 gs:GS W p nn nr N R F T
 node:∃ la lc,Rec W X #[.int .i64 nn,.slice la done.length lc,.slice pa pn pc] 47∧W.ownsRow (g+1) 9 1 (.slice la done.length lc) done.length (done.map Value.string)∧(done=[]→la=none∧lc=0)
 left:Zh4 W lo g rest
 below:Below w.heap.size w W
 room:g<W.heap.size
 far:∀ b,w.heap.size≤b→b<lo→b≠X→W.heap[b]?=V.heap[b]?
 old:p.g<w.heap.size∧p.n<w.heap.size∧p.r<w.heap.size∧p.f<w.heap.size∧p.t<w.heap.size
def Zyz (lo g:Nat) (ks:List ByteArray) (W:World) (v:ByteArray) (b:Bool) (w':World):Prop:=(ks=[]∧b=false∧w'=W)∨∃ x r,ks=x::r∧v=x∧b=true∧Jbb W lo g w' (Zc2 x r)
theorem Zpc {W:World} {lo g:Nat} {ks:List ByteArray} (h:Zh4 W lo g ks):Calls Tryz.prog 138 #[.pointer (some ⟨g,0,none⟩)] W fun e w'=>∃ v b,e=.returned (.tuple #[.string v,.bool b])∧Zyz lo g ks W v b w':=by
 cases ks with
 | nil =>
  obtain ⟨a,c,hr,_⟩:=h
  exact (Ztp g a c W hr).mono fun e w' ⟨h1,h2⟩=>⟨_,_,h1,.inl ⟨rfl,rfl,h2⟩⟩
 | cons x r=>exact (Ztq lo g x r W h.rest).mono fun e w' ⟨h1,h2⟩=>⟨_,_,h1,.inr ⟨x,r,rfl,rfl,rfl,h2⟩⟩
def Zt2  : Value→Nat
 | .bool true=>1
 | _=>0
def AnI (w V:World) (p:GP) (nn nr:Int) (N R F T:List (Int × Value)) (X lo g:Nat) (pa:Option Addr) (pn pc:Nat) (S:List ByteArray) (l m:Value) (wr:World):Prop :=
 ∃ done rest,AnJ w V p nn nr N R F T X lo g pa pn pc done rest wr∧((m=.bool false∧(∃ s,l=.string s)∧done=S)∨∃ x,l=.string x∧m=.bool true∧done++x::Zfb rest=S)
theorem AnJ.next {w V:World} {p:GP} {nn nr:Int} {N R F T:List (Int × Value)} {X lo g:Nat} {pa:Option Addr} {pn pc:Nat} {done rest:List ByteArray} {W w':World} {v:ByteArray} {b:Bool} {S:List ByteArray}
  (h:AnJ w V p nn nr N R F T X lo g pa pn pc done rest W) (hn:Zyz lo g rest W v b w') (hS:done++Zfb rest=S) (hX:X<lo) (hl:lo≤g) (hw:w.heap.size≤X):AnI w V p nn nr N R F T X lo g pa pn pc S (.string v) (.bool b) w'∧(Znj w' g+Zt2 (.bool b)=0∨Znj w' g+Zt2 (.bool b)≤rest.length):=by
 rcases hn with ⟨rfl,rfl,rfl⟩ | ⟨x,r,rfl,rfl,rfl,hr⟩
 ·refine ⟨⟨done,[],h,.inl ⟨rfl,⟨v,rfl⟩,by simpa [Zfb,Zg0] using hS⟩⟩,.inl ?_⟩
  obtain ⟨a,c,h1,_⟩:=h.left
  rw [Zfv h1];rfl
 ·rw [Zq0] at hS
  refine ⟨⟨done,Zc2 v r,⟨?_,?_,hr.at_,?_,by rw [hr.size];exact h.room,fun b h1 h2 h3=>(hr.other b (by omega)).trans (h.far b h1 h2 h3),h.old⟩,.inr ⟨v,rfl,rfl,hS⟩⟩,.inr ?_⟩
  ·exact ⟨h.gs.obj.keep (hr.other _ (by have:=h.old;omega)),h.gs.n.block (hr.other _ (by have:=h.old;omega)),h.gs.r.block (hr.other _ (by have:=h.old;omega)),h.gs.f.block (hr.other _ (by have:=h.old;omega)),h.gs.t.block (hr.other _ (by have:=h.old;omega))⟩
  ·obtain ⟨la,lc,h1,h2,h3⟩:=h.node
   exact ⟨la,lc,h1.keep (hr.other _ (by omega)),Zt h2 fun i hi _=>hr.other i (by omega),h3⟩
  ·exact h.below.trans (hr.below.mono (by omega))
  ·obtain ⟨a,c,h1,_⟩:=hr.at_
   rw [Zfv h1]
   have:=Zh3 v r
   simp only [Zt2,List.length_cons]
   omega
def Jgv (w:World) (K:World→Value→Prop) (v:Value) (w':World):Prop:=∃ V X,KB K V v∧w.heap.size≤X∧Rec V X #[.int .i64 0,.slice none 0 0,.slice none 0 0] 47∧Below w.heap.size w V∧V.heap.size≤w'.heap.size∧∀ b,w.heap.size≤b→b<V.heap.size→b≠X→w'.heap[b]?=V.heap[b]?
set_option maxRecDepth 100000 in
set_option maxHeartbeats 8000000 in
theorem Znl {w:World} {p:GP} {nn nr:Int} {N R F T:List (Int × Value)} (h:GS w p nn nr N R F T) (B:Nat) (hok:p.Ok B) (hB:B≤w.heap.size)
  (ks:List ByteArray) (a:Option Addr) (cap:Nat) (pv:Value) (K:World→Value→Prop) (hpv:∃ a n c,pv=.slice a n c)
  (hks:ks.length≤2000000) (hcap:ks.length≤cap) (hcap2:cap≤9223372036854775807) (hat:Zby w.heap.size w a ks)
  (ha:Calls Tryz.prog 85 #[.slice a ks.length cap] w fun e w'=>e=.returned (.bool true)∧Below w.heap.size w w')
  (hs:∀ W,Below w.heap.size w W→Calls Tryz.prog 86 #[pv] W fun e w'=>e=.returned (.bool true)∧Below W.heap.size W w')
  (hk:∀ W,Below w.heap.size w W→Calls Tryz.prog 88 #[pv] W fun e w'=>∃ a n c,e=.returned (.slice a n c)∧K w' (.slice a n c)∧Below W.heap.size W w')
  (hnn:I64 nn) (hnn1:nn<4611686018427387904) (hnn0:0≤nn) (hnew:∀ q ∈ N,q.1≠nn) (hsz:N.length+R.length<65536) :
  Calls Tryz.prog 30 #[p.val,.slice a ks.length cap,pv] w fun e w'=>e=.returned (.tuple #[.int .i64 nn,.int .i64 0])∧∃ la ln lc pa pn pc,GS w' p (nn+1) nr (N++[(nn,.agg #[.int .i64 nn,.slice la ln lc,.slice pa pn pc])]) R F T∧Below B w w'∧w'.ownsRow w.heap.size 9 1 (.slice la ln lc) (Zfb (Zdt ks)).length ((Zfb (Zdt ks)).map Value.string)∧(Zfb (Zdt ks)=[]→la=none∧ln=0∧lc=0)∧Jgv w K (.slice pa pn pc) w':=by
 obtain ⟨qa,qn,qc,rfl⟩:=hpv
 have hsl:(Zdt ks).length≤2000000:=by rw [Zmf];exact hks
 obtain ⟨S,hSS⟩:∃ S,Zfb (Zdt ks)=S:=⟨_,rfl⟩
 have hSl:S.length≤2000000:=by rw [← hSS];exact Nat.le_trans (Zt1 _) hsl
 rw [hSS]
 have HSS:=Zb hSS
 clear hSS hsl
 have HG:=Zb h
 have HK:=Zb hk
 have HS:=Zb hs
 have HA:=Zb ha
 have HT:=Zb hat
 have HTh:=Zb (Zcq h)
 have HOK:=Zb hok
 have HNEW:=Zb hnew
 clear h hk hs ha hat hok hnew
 unfold GP.val at HTh ⊢
 go_enter Tryz.func30,Tryz.ntmps30
 go_wp2_with fail
 refine HTh.out.mono ?_
 rintro e w1 ⟨rfl,hw1⟩
 rw [hw1]
 clear hw1 HTh
 go_wp2_with fail
 refine HA.out.mono ?_
 rintro e w2 ⟨rfl,hb2⟩
 have HB2:=Zb hb2
 clear hb2 HA
 go_wp2_with fail
 refine (HS.out w2 HB2.out).mono ?_
 rintro e w3 ⟨rfl,hb3⟩
 have HB3:=Zb (Za HB2.out hb3)
 clear hb3 HS
 have HG3:=Zb (HG.out.below HB3.out)
 have HFu:=Zb (Zos HG3.out hsz nn hnn1)
 unfold GP.val at HFu
 have c2:=HG3.out.c2
 go_wp2_with fail
 refine HFu.out.mono ?_
 rintro e w4 ⟨rfl,hb4⟩
 have HB4:=Zb (Za HB3.out hb4)
 have HG4:=Zb (HG.out.below HB4.out)
 clear hb4 c2 HFu HG3 HB3 HB2
 go_upto_region 7 with fail
 show (Code.region 7 Zi2 true).wp _ _ _ _
 refine Zts p nn (.slice qa qn qc) w4.heap.size K _ _ _ rfl ⟨rfl,rfl⟩ ?_ ?_
 ·intro W hW
  exact ⟨(hW.cell (p:=⟨p.g,2,none⟩) HG4.out.obj.lt).trans HG4.out.c2,hW.size,HK.out W (Za HB4.out hW)⟩
 rintro c W5 hS hB5 ⟨pa,pn,pc,e40,hkb⟩ ⟨X,e8,hX,hr5⟩
 have HKV:Hid (KB K W5 (.slice pa pn pc)∧w.heap.size≤X∧Rec W5 X #[.int .i64 0,.slice none 0 0,.slice none 0 0] 47∧Below w.heap.size w W5):=⟨hkb,Nat.le_trans HB4.out.size hX,hr5,Za HB4.out hB5⟩
 clear hkb
 obtain ⟨W6,hrun,hput⟩:=Zzd c.eval X W5 _ _ _ nn pa pn pc hr5 e8 e40
 refine ⟨W6,hrun,?_⟩
 clear hrun
 rw [Zao hS [33,34,35,36,37,38,39,40,8] (by kernel_rfl)]
 obtain ⟨y33,q33⟩:∃ y,c.eval (.tmp 33)=y:=⟨_,rfl⟩
 obtain ⟨y34,q34⟩:∃ y,c.eval (.tmp 34)=y:=⟨_,rfl⟩
 obtain ⟨y35,q35⟩:∃ y,c.eval (.tmp 35)=y:=⟨_,rfl⟩
 obtain ⟨y36,q36⟩:∃ y,c.eval (.tmp 36)=y:=⟨_,rfl⟩
 obtain ⟨y37,q37⟩:∃ y,c.eval (.tmp 37)=y:=⟨_,rfl⟩
 obtain ⟨y38,q38⟩:∃ y,c.eval (.tmp 38)=y:=⟨_,rfl⟩
 obtain ⟨y39,q39⟩:∃ y,c.eval (.tmp 39)=y:=⟨_,rfl⟩
 obtain ⟨y40,q40⟩:∃ y,c.eval (.tmp 40)=y:=⟨_,rfl⟩
 obtain ⟨y8,q8⟩:∃ y,c.eval (.tmp 8)=y:=⟨_,rfl⟩
 simp only [List.foldl_cons,List.foldl_nil,q33,q34,q35,q36,q37,q38,q39,q40,q8]
 rw [e8] at q8
 rw [e40] at q40
 subst q8 q40
 clear e8 e40 hS
 have hX5:X<W5.heap.size:=hr5.lt
 have HB6:Hid (Below w.heap.size w W6):=(HB4.out.trans (hB5.mono HB4.out.size)).trans (hput.below.mono (Nat.le_trans HB4.out.size hX))
 have HG6:Hid (GS W6 p nn nr N R F T):=HG.out.below HB6.out
 have HR6:=Zb hput.r
 have hs6:X<W6.heap.size:=hput.r.lt
 have HV6:Hid (W5.heap.size≤W6.heap.size∧∀ b,w.heap.size≤b→b<W6.heap.size→b≠X→W6.heap[b]?=W5.heap[b]?):=⟨hput.below.size,fun b _ _ h=>hput.other b h⟩
 have hX0:w.heap.size≤X:=Nat.le_trans HB4.out.size hX
 clear hput hr5 hB5 hX5 hX HB4 HG4 HK
 clear q33 q34 q35 q36 q37 q38 q39
 simp only [List.setIfInBounds_toArray,List.set_cons_succ,List.set_cons_zero]
 have HE:=Zb (Zmg ks (by omega) a cap W6 hcap ((HT.out.below HB6.out).mono HB6.out.size))
 go_wp2_with fail
 refine HE.out.mono ?_
 rintro e w7 ⟨g,rfl,hg7,hl7,hz7,hb7⟩
 have HJ7:Hid (AnJ w W5 p nn nr N R F T X W6.heap.size g pa pn pc [] (Zdt ks) w7) :=
  ⟨HG6.out.below hb7,⟨none,0,HR6.out.below hb7 hs6,World.ownsRow_nil _ _ _ _,fun _=>⟨rfl,rfl⟩⟩,hl7.at_,HB6.out.trans (hb7.mono HB6.out.size),by omega,fun b h1 h2 h3=>(hb7.block b h2).trans (HV6.out.2 b h1 h2 h3),HG.out.obj.lt,HG.out.n.lt,HG.out.r.lt,HG.out.f.lt,HG.out.t.lt⟩
 have hlo:X<W6.heap.size:=hs6
 obtain ⟨lo,hlo'⟩:∃ lo,W6.heap.size=lo:=⟨_,rfl⟩
 have hv6:W5.heap.size≤lo:=by rw [← hlo'];exact HV6.out.1
 have HVL:=Zb hv6
 clear hv6 HV6
 rw [hlo'] at HJ7 hlo hg7
 clear hl7 hz7 hb7 HE HG6 HR6 hs6 hlo' HB6 HT
 have HN7:=Zb (Zpc HJ7.out.left)
 go_wp2_with fail
 refine HN7.out.mono ?_
 rintro e w8 ⟨v8,b8,rfl,hn8⟩
 have HI8:=Zb (HJ7.out.next (S:=S) hn8 (by rw [List.nil_append];exact HSS.out) hlo hg7 hX0).1
 clear hn8 HN7 HJ7 HSS
 go_wp2_with fail
 go_loopw [10,11] (fun l m wr=>AnI w W5 p nn nr N R F T X lo g pa pn pc S l m wr) (fun _ m wr=>Znj wr g+Zt2 m)
 case atStart=>exact HI8.out
 case round =>
  obtain ⟨done,rest,hJ,⟨rfl,⟨s,rfl⟩,hdone⟩ | ⟨x,rfl,rfl,hd⟩⟩:=hrel
  ·have HJ:=Zb hJ
   have HD:=Zb hdone
   obtain ⟨la,lc,hn1,hn2,hn3⟩:=hJ.node
   have HN3':=Zb hn3
   clear hn3
   have HN1:=Zb hn1
   have HN2:=Zb hn2
   clear hJ hdone hn1 hn2 HI8
   obtain ⟨ln,hln⟩:∃ ln,done.length=ln:=⟨_,rfl⟩
   rw [hln] at HN1 HN2
   have HLN:=Zb hln
   clear hln
   go_upto_region 13 with fail
   show (Code.region 13 Zke true).wp _ _ _ _
   refine Zqy p nn X la pa ln lc pn pc _ _ _ rfl ⟨rfl,rfl⟩ ?_ ?_
   ·intro W hW
    exact ⟨(hW.cell (p:=⟨p.g,0,none⟩) HJ.out.gs.obj.lt).trans HJ.out.gs.c0,(hW.cell (p:=⟨X,0,none⟩) HN1.out.lt).trans (HN1.out.cell 0 rfl),(hW.cell (p:=⟨X,1,none⟩) HN1.out.lt).trans (HN1.out.cell 1 rfl),(hW.cell (p:=⟨X,2,none⟩) HN1.out.lt).trans (HN1.out.cell 2 rfl)⟩
   intro c W9 hS hB9 e64 e66 e67
   obtain ⟨W10,hup,hmi,hs10,ho10,hb10⟩:=Zf6 Tryz.underlying68' (HJ.out.gs.n.below hB9 (Nat.le_refl _)) nn (.agg #[.int .i64 nn,.slice la ln lc,.slice pa pn pc]) hnn HNEW.out
   refine ⟨W10,?_,?_⟩
   ·generalize c.eval=ρ at *
    clear hS hmi ho10 hb10
    go_simp
   rw [Zao hS [60,61,62,63,64,65,66,67] (by kernel_rfl)]
   obtain ⟨y60,q60⟩:∃ y,c.eval (.tmp 60)=y:=⟨_,rfl⟩
   obtain ⟨y61,q61⟩:∃ y,c.eval (.tmp 61)=y:=⟨_,rfl⟩
   obtain ⟨y62,q62⟩:∃ y,c.eval (.tmp 62)=y:=⟨_,rfl⟩
   obtain ⟨y63,q63⟩:∃ y,c.eval (.tmp 63)=y:=⟨_,rfl⟩
   obtain ⟨y64,q64⟩:∃ y,c.eval (.tmp 64)=y:=⟨_,rfl⟩
   obtain ⟨y65,q65⟩:∃ y,c.eval (.tmp 65)=y:=⟨_,rfl⟩
   obtain ⟨y66,q66⟩:∃ y,c.eval (.tmp 66)=y:=⟨_,rfl⟩
   obtain ⟨y67,q67⟩:∃ y,c.eval (.tmp 67)=y:=⟨_,rfl⟩
   simp only [List.foldl_cons,List.foldl_nil,q60,q61,q62,q63,q64,q65,q66,q67]
   clear q60 q61 q62 q63 q64 q65 q66 q67 hS e64 e66 e67 hup
   simp only [List.setIfInBounds_toArray,List.set_cons_succ,List.set_cons_zero]
   obtain ⟨o1,o2,o3,o4,o5,n1,n2,n3,n4,n5,n6,n7,n8,n9,n10⟩:=HOK.out
   obtain ⟨u1,u2,u3,u4,u5⟩:=HJ.out.old
   have HG9:=Zb (HJ.out.gs.below hB9)
   have HG10:Hid (GS W10 p nn nr (N++[(nn,.agg #[.int .i64 nn,.slice la ln lc,.slice pa pn pc])]) R F T) :=
    ⟨HG9.out.obj.keep (ho10 _ n1),hmi,HG9.out.r.block (ho10 _ (Ne.symm n5)),HG9.out.f.block (ho10 _ (Ne.symm n6)),HG9.out.t.block (ho10 _ (Ne.symm n7))⟩
   have HX10:Hid (Rec W10 X #[.int .i64 nn,.slice la ln lc,.slice pa pn pc] 47):=(HN1.out.below hB9 HN1.out.lt).keep (ho10 _ (by omega))
   have HRow10:Hid (W10.ownsRow (g+1) 9 1 (.slice la ln lc) ln (done.map Value.string)):=Zt HN2.out fun i hi hl=>(ho10 i (by omega)).trans (hB9.block i hl)
   have HFA:Hid (∀ b,w.heap.size≤b→b<W5.heap.size→b≠X→W10.heap[b]?=W5.heap[b]?):=fun b h1 h2 h3=>by
    have h4:b<lo:=Nat.lt_of_lt_of_le h2 HVL.out
    exact (ho10 b (by omega)).trans ((hB9.block b (by have:=HJ.out.room;omega)).trans (HJ.out.far b h1 h4 h3))
   have HZ10:Hid (W5.heap.size≤W10.heap.size):=by
    show _≤_
    have h1:=HVL.out
    have h2:=HJ.out.room
    have h3:=hB9.size
    have h4:=hb10.size
    omega
   have HB10:Hid (Below B w W10):=(HJ.out.below.mono hB).trans ((hB9.mono (by have:=HJ.out.below.size;omega)).trans (hb10.mono o2))
   clear hmi ho10 hb10 hs10 hB9 HG9
   have c2:=HG10.out.c2
   have z2:=HG10.out.obj.z 2
   have hwr:IntKind.i64.wrap (nn+1)=nn+1:=by rw [IntKind.wrap_i64];omega
   go_upto_region 15 with fail
   generalize hW11:World.setCell _ _ _=W11
   have HX11:Hid (Rec W11 X #[.int .i64 nn,.slice la ln lc,.slice pa pn pc] 47):=by rw [← hW11];exact HX10.out.other (by omega)
   have HG11:Hid (GS W11 p (nn+1) nr (N++[(nn,.agg #[.int .i64 nn,.slice la ln lc,.slice pa pn pc])]) R F T):=by
    rw [← hW11]
    refine ⟨?_,HG10.out.n.block (Below.heap_setCell _ _ _ _ (Ne.symm n1)),HG10.out.r.block (Below.heap_setCell _ _ _ _ (Ne.symm n2)),HG10.out.f.block (Below.heap_setCell _ _ _ _ (Ne.symm n3)),HG10.out.t.block (Below.heap_setCell _ _ _ _ (Ne.symm n4))⟩
    have:=HG10.out.obj.set 2 (.int .i64 (nn+1))
    simpa [GP.cells] using this
   have HB11:Hid (Below B w W11):=by rw [← hW11];exact HB10.out.setCell (p:=⟨p.g,2,none⟩) o1 _
   have HRow11:Hid (W11.ownsRow (g+1) 9 1 (.slice la ln lc) ln (done.map Value.string)):=by
    rw [← hW11]
    exact Zt HRow10.out fun i hi _=>Below.heap_setCell _ _ _ _ (by show i≠p.g;omega)
   have HFB:Hid (W5.heap.size≤W11.heap.size∧∀ b,w.heap.size≤b→b<W5.heap.size→b≠X→W11.heap[b]?=W5.heap[b]?):=by
    rw [← hW11]
    exact ⟨by simp [World.setCell];exact HZ10.out,fun b h1 h2 h3=>(Below.heap_setCell _ _ _ _ (by show b≠p.g;omega)).trans (HFA.out b h1 h2 h3)⟩
   clear hW11 c2 z2
   have x0:=HX11.out.cell 0 rfl
   go_wp2_with fail
   go_ret2
   refine ⟨rfl,la,ln,lc,pa,pn,pc,HG11.out,HB11.out,?_,fun he=>?_,W5,X,HKV.out.1,HKV.out.2.1,HKV.out.2.2.1,HKV.out.2.2.2,HFB.out⟩
   ·have:=Zg5 HRow11.out (show w.heap.size≤g+1 by omega)
    rw [HD.out] at this
    rw [← HLN.out,HD.out] at this ⊢
    exact this
   have he':done=[]:=by rw [HD.out];exact he
   exact ⟨(HN3'.out he').1,by rw [← HLN.out,he'];rfl,(HN3'.out he').2⟩
  ·have HJ:=Zb hJ
   have HD:=Zb hd
   obtain ⟨la,lc,hn1,hn2,_⟩:=hJ.node
   have HN1:=Zb hn1
   have HN2:=Zb hn2
   have x1:=hn1.cell 1 rfl
   have hrm:=hJ.room
   have hdl:done.length+1≤2000000:=by
    have:=congrArg List.length hd
    simp only [List.length_append,List.length_cons] at this
    omega
   clear hJ hd hn1 hn2 HI8
   obtain ⟨i0,hi,hz0,hz1,hz2⟩:=info_parts Tryz.info9
   obtain ⟨ln,hln⟩:∃ ln,done.length=ln:=⟨_,rfl⟩
   rw [hln] at HN1 HN2 hdl
   replace x1:wr.cell? ⟨X,1,none⟩=some (.slice la ln lc):=HN1.out.cell 1 rfl
   have HLN:=Zb hln
   clear hln
   go_wp2_with (at_builtin;refine wpList_append_own _ rfl _ _ 44 rfl (g+1) 9 i0 (.string ⟨#[]⟩) 1 16 Tryz.underlying44 hi hz0 hz1 hz2 rfl (by decide) _ _ _ rfl (Zt HN2.out fun g _ hg=>Below.heap_alloc _ _ _ hg) ⟨wr.heap.size,0,none⟩ 1 1 [.string x] rfl rfl ?d1 ?d2 ?d3 ?d4 ?d5 ?_)
   case d1 =>
    intro j u hj
    have hadd:(⟨wr.heap.size,0,none⟩:Addr).add j=⟨wr.heap.size,j,none⟩:=by unfold Addr.add;split<;>simp_all
    rw [hadd]
    refine Zaf _ _ _ _ _ ?_
    simpa using hj
   case d2=>intro u hu;simp only [List.mem_cons,List.not_mem_nil,or_false] at hu;subst hu;rfl
   case d3=>unfold maxLen;omega
   case d4=>omega
   case d5=>first | omega | (simp;omega)
   intro v3 w3 hown3 hgrow3 _
   obtain ⟨ub,ud,rfl⟩:=Zw hown3
   have hb3:Below (g+1) wr w3:=((Below.refl _ wr).alloc (by omega) _).trans (Zfr (Zt HN2.out fun g _ hg=>Below.heap_alloc _ _ _ hg) (by simp;omega) hgrow3)
   have HB3:=Zb hb3
   have HO3:=Zb hown3
   have HN3:=Zb (HN1.out.below hb3 (by omega))
   have y1:=HN3.out.cell 1 rfl
   have fy:=HN3.out.z 1
   have hs3:=hb3.size
   clear hown3 hgrow3 hb3 x1
   go_upto_region 11 with fail
   generalize hW4:World.setCell _ _ _=W4
   have HJ4:Hid (AnJ w W5 p nn nr N R F T X lo g pa pn pc (done++[x]) rest W4):=by
    obtain ⟨u1,u2,u3,u4,u5⟩:=HJ.out.old
    have hkk:∀ i,i<g+1→i≠X→W4.heap[i]?=wr.heap[i]?:=fun i hi hx=>by
     rw [← hW4]
     exact (Below.heap_setCell _ _ _ _ hx).trans (HB3.out.block i hi)
    refine ⟨⟨HJ.out.gs.obj.keep (hkk _ (by omega) (by omega)),HJ.out.gs.n.block (hkk _ (by omega) (by omega)),HJ.out.gs.r.block (hkk _ (by omega) (by omega)),HJ.out.gs.f.block (hkk _ (by omega) (by omega)),HJ.out.gs.t.block (hkk _ (by omega) (by omega))⟩,⟨ub,ud,?_,?_,fun h=>by simp at h⟩,HJ.out.left.keep (fun i h1 h2=>hkk i (by omega) (by omega)) (by omega),?_,?_,fun b h1 h2 h3=>(hkk b (by omega) h3).trans (HJ.out.far b h1 h2 h3),HJ.out.old⟩
    ·rw [← hW4,List.length_append,HLN.out]
     have:=HN3.out.set 1 (.slice ub (ln+1) ud)
     simpa using this
    ·rw [List.length_append,HLN.out,List.map_append]
     exact Zt HO3.out fun i hi _=>by
      rw [← hW4]
      exact Below.heap_setCell _ _ _ _ (by show i≠X;omega)
    ·rw [← hW4]
     exact (HJ.out.below.trans (HB3.out.mono (by omega))).setCell (p:=⟨X,1,none⟩) hX0 _
    ·rw [← hW4];simp [World.setCell];omega
   have HNX:=Zb (Zpc HJ4.out.left)
   have HLR:Hid (Znj wr g=rest.length):=by
    obtain ⟨a,c,h1,_⟩:=HJ.out.left
    exact Zfv h1
   clear hW4 y1 fy HB3 HO3 HN3 hs3 HN1 HN2 HJ HLN
   go_wp2_with fail
   refine HNX.out.mono ?_
   rintro e w5 ⟨v5,b5,rfl,hn5⟩
   obtain ⟨hI5,hm5⟩:=HJ4.out.next (S:=S) hn5 (by rw [List.append_assoc];exact HD.out) hlo hg7 hX0
   have HI5:=Zb hI5
   have HM5:=Zb hm5
   clear hI5 hm5 hn5 HNX HJ4
   go_wp2_with fail
   go_roundw
   case rel=>exact HI5.out
   case measure =>
    rw [HLR.out]
    have e1:Zt2 (.bool true)=1:=rfl
    rw [e1]
    rcases HM5.out with h | h<;>omega
theorem Zjg {w:World} {p:GP} {nn nr:Int} {N R F T:List (Int × Value)} (h:GS w p nn nr N R F T) (B:Nat) (hok:p.Ok B) (hB:B≤w.heap.size)
  (ks:List ByteArray) (a:Option Addr) (cap:Nat) (pv:Value) (K:World→Value→Prop) (hpv:∃ a n c,pv=.slice a n c)
  (hks:ks.length≤2000000) (hcap:ks.length≤cap) (hcap2:cap≤9223372036854775807) (hat:Zby w.heap.size w a ks)
  (ha:Calls Tryz.prog 85 #[.slice a ks.length cap] w fun e w'=>e=.returned (.bool true)∧Below w.heap.size w w')
  (hs:∀ W,Below w.heap.size w W→Calls Tryz.prog 86 #[pv] W fun e w'=>e=.returned (.bool true)∧Below W.heap.size W w')
  (hk:∀ W,Below w.heap.size w W→Calls Tryz.prog 88 #[pv] W fun e w'=>∃ a n c,e=.returned (.slice a n c)∧K w' (.slice a n c)∧Below W.heap.size W w')
  (hnn:I64 nn) (hnn1:nn<4611686018427387904) (hnn0:0≤nn) (hnew:∀ q ∈ N,q.1≠nn) (hsz:N.length+R.length<65536) :
  Calls Tryz.prog 30 #[p.val,.slice a ks.length cap,pv] w fun e w'=>e=.returned (.tuple #[.int .i64 nn,.int .i64 0])∧∃ la ln lc pa pn pc,GS w' p (nn+1) nr (N++[(nn,.agg #[.int .i64 nn,.slice la ln lc,.slice pa pn pc])]) R F T∧Below B w w'∧w'.ownsRow w.heap.size 9 1 (.slice la ln lc) (Zfb (Zdt ks)).length ((Zfb (Zdt ks)).map Value.string)∧(Zfb (Zdt ks)=[]→la=none∧ln=0∧lc=0)∧∃ W,K W (.slice pa pn pc) :=
 (Znl h B hok hB ks a cap pv K hpv hks hcap hcap2 hat ha hs hk hnn hnn1 hnn0 hnew hsz).mono fun e w' ⟨h1,la,ln,lc,pa,pn,pc,h2,h3,h4,h5,V,X,⟨W,h6,_⟩,_⟩=>⟨h1,la,ln,lc,pa,pn,pc,h2,h3,h4,h5,W,h6⟩
end
section
open Go.RowKit Go.Shelf Go.WideShapes
set_option maxHeartbeats 4000000
set_option maxRecDepth 100000
set_option linter.all false
theorem Tryz.info2  : (Tryz.prog.info? 2).map (fun i=>(i.zero,i.size,i.bytes))=some (some (.int .i64 0),1,8):=by kernel_rfl
theorem Zb0 {P:Program} {w w':World} {ρ:Operand→Value} {x y:Operand} {t ty:TypeId} {d:Option Tmp} {pos:String} {af:Array Edge} {g:Option (Nat × Bool)} {vx vy v':Value} (hx:ρ x=vx) (hy:ρ y=vy)
  (h:(Builtin.append_ #[t,t] ty #[vx,vy]).run P w=.ok v' w') :
  (execOp ρ { dst:=d,op:=Op.call { callee:=Callee.builtin Builtin.append,args:=#[x,y],argTypes:=#[t,t] },type:=ty,pos:=pos,after:=af,guard:=g }).run P w=.ok (.value v') w':=by
 unfold execOp
 simp only [resolve,invoke,builtin,Sem.run_bind,Sem.run_pure,Result.andThen_ok,List.map_toArray,List.map_cons,List.map_nil,hx,hy,h]
noncomputable def Zi3  : Array Oper:=Jg Tryz.f32 9
def Je9  : List Sig:=[⟨45,.move (.tmp 0),31,none⟩,⟨46,.nilCheck (.tmp 45),0,none⟩,⟨47,.fieldAddr 74 (.tmp 46) 0,0,none⟩,⟨48,.fieldAddr 71 (.tmp 47) 3,0,none⟩,⟨49,.load 2 (.tmp 48),2,none⟩,⟨50,.move (.tmp 1),2,none⟩,⟨51,.move (.tmp 2),2,none⟩,⟨52,.move (.tmp 3),9,none⟩,⟨53,.move (.tmp 4),45,none⟩,⟨54,.call { callee:=.value (.func 88),args:=#[.tmp 53],argTypes:=#[45] },45,none⟩,⟨55,.build 49 #[(0,.tmp 49),(1,.tmp 50),(2,.tmp 51),(3,.tmp 52),(4,.tmp 54)],49,none⟩,⟨12,.alloc 49,0,none⟩]
theorem Jcb  : (Jq Zi3).take Je9.length=Je9.map some:=by kernel_rfl
def Zh5 (i:Nat):List Nat:=nth [] [[],[0],[1],[2],[3],[],[],[],[],[8],[4,5,6,7,9],[],[0,1,2,3,4,5,6,7,8,9,10,11]] i
def Za3 (p:GP) (nr f t:Int) (s:ByteArray) (pv:Value) (B0:Nat) (K:World→Value→Prop):List (Value→World→Prop) :=
 [eqv (.pointer (some ⟨p.g,0,none⟩)),eqv (.pointer (some ⟨p.g,0,none⟩)),eqv (.pointer (some ⟨p.g,0,none⟩)),eqv (.pointer (some ⟨p.g,3,none⟩)),eqv (.int .i64 nr),eqv (.int .i64 f),eqv (.int .i64 t),eqv (.string s),eqv (pv),fun v w=>∃ a n c,v=.slice a n c∧KB K w v,fun v w=>∃ a n c,v=.agg #[.int .i64 nr,.int .i64 f,.int .i64 t,.string s,.slice a n c]∧KB K w (.slice a n c),fun v w=>∃ X,v=.pointer (some ⟨X,0,none⟩)∧B0≤X∧Rec w X #[.int .i64 0,.int .i64 0,.int .i64 0,.string ⟨#[]⟩,.slice none 0 0] 49]
structure Zgj (p:GP) (nr f t:Int) (s:ByteArray) (pv:Value) (B0:Nat) (K:World→Value→Prop) (c:Act):Prop where
 t0:c.eval (.tmp 0)=.pointer (some ⟨p.g,0,none⟩)
 t1:c.eval (.tmp 1)=.int .i64 f
 t2:c.eval (.tmp 2)=.int .i64 t
 t3:c.eval (.tmp 3)=.string s
 t4:c.eval (.tmp 4)=pv
structure Zeo (p:GP) (nr f t:Int) (s:ByteArray) (pv:Value) (B0:Nat) (K:World→Value→Prop) (w:World):Prop where
 c3:w.cell? ⟨p.g,3,none⟩=some (.int .i64 nr)
 b0:B0≤w.heap.size
 k6:Calls Tryz.prog 88 #[pv] w fun e w'=>∃ a n c,e=.returned (.slice a n c)∧K w' (.slice a n c)∧Below w.heap.size w w'
theorem Jcc (p:GP) (nr f t:Int) (s:ByteArray) (pv:Value) (B0:Nat) (K:World→Value→Prop) (Q:Exit→Act→World→Prop) (c:Act) (w:World) (hb:Zgj p nr f t s pv B0 K c) (hW:Zeo p nr f t s pv B0 K w) (hF:∀ q0 ∈ Zh5 9,Zf (Za3 p nr f t s pv B0 K) q0 (val Zi3 c q0) w) :
  Zak Tryz.prog Zi3 Q (Zf (Za3 p nr f t s pv B0 K)) 9 c w:=by
 have ho:Zi3[9]?=some (⟨some 54,.call { callee:=.value (.func 88),args:=#[.tmp 53],argTypes:=#[45] },45, "edit.go:44",#[⟨8,.data⟩],none⟩:Oper):=by kernel_rfl
 have e53:c.eval (.tmp 53)=pv:=Zi (by kernel_rfl) rfl (hF 8 (by decide))
 have hw:Region.wanted (⟨some 54,.call { callee:=.value (.func 88),args:=#[.tmp 53],argTypes:=#[45] },45, "edit.go:44",#[⟨8,.data⟩],none⟩:Oper) (yielded Zi3 c.tmps)=true:=Zn rfl
 have ec:=evc c
 have ef:=evf c
 refine Zcd ho hw (f:=88) (args:=#[pv]) ?_ (hW.k6.mono fun e w' ⟨a,n,c,h1,h2,h3⟩=>⟨_,h1,⟨a,n,c,rfl,w',h2,Below.refl _ _⟩,h3⟩)
 generalize c.eval=ρ at *
 clear hF hb hW hw ho
 go_simp
theorem Zz8 (p:GP) (nr f t:Int) (s:ByteArray) (pv:Value) (B0:Nat) (K:World→Value→Prop) (Q:Exit→Act→World→Prop) (c:Act) (w:World) (hb:Zgj p nr f t s pv B0 K c) (hW:Zeo p nr f t s pv B0 K w) (hF:∀ q0 ∈ Zh5 10,Zf (Za3 p nr f t s pv B0 K) q0 (val Zi3 c q0) w) :
  Zak Tryz.prog Zi3 Q (Zf (Za3 p nr f t s pv B0 K)) 10 c w:=by
 have ho:Zi3[10]?=some (⟨some 55,.build 49 #[(0,.tmp 49),(1,.tmp 50),(2,.tmp 51),(3,.tmp 52),(4,.tmp 54)],49, "edit.go:44",#[⟨4,.data⟩,⟨5,.data⟩,⟨6,.data⟩,⟨7,.data⟩,⟨9,.data⟩],none⟩:Oper):=by kernel_rfl
 have e49:c.eval (.tmp 49)=.int .i64 nr:=Zi (by kernel_rfl) rfl (hF 4 (by decide))
 have e50:c.eval (.tmp 50)=.int .i64 f:=Zi (by kernel_rfl) rfl (hF 5 (by decide))
 have e51:c.eval (.tmp 51)=.int .i64 t:=Zi (by kernel_rfl) rfl (hF 6 (by decide))
 have e52:c.eval (.tmp 52)=.string s:=Zi (by kernel_rfl) rfl (hF 7 (by decide))
 have f54:(fun v w=>∃ a n c,v=.slice a n c∧KB K w v) (c.eval (.tmp 54)) w:=Je (by kernel_rfl) rfl (hF 9 (by decide))
 have hw:Region.wanted (⟨some 55,.build 49 #[(0,.tmp 49),(1,.tmp 50),(2,.tmp 51),(3,.tmp 52),(4,.tmp 54)],49, "edit.go:44",#[⟨4,.data⟩,⟨5,.data⟩,⟨6,.data⟩,⟨7,.data⟩,⟨9,.data⟩],none⟩:Oper) (yielded Zi3 c.tmps)=true:=Zn rfl
 have ec:=evc c
 have ef:=evf c
 obtain ⟨a,n,cc,e54,hk⟩:=f54
 rw [e54] at hk
 refine Ze ho hw (v:=.agg #[.int .i64 nr,.int .i64 f,.int .i64 t,.string s,.slice a n cc]) ?_ ⟨a,n,cc,rfl,hk⟩ (Below.refl _ _)
 generalize c.eval=ρ at *
 clear hF hb hW hw ho
 go_simp
theorem Zz9 (p:GP) (nr f t:Int) (s:ByteArray) (pv:Value) (B0:Nat) (K:World→Value→Prop) (Q:Exit→Act→World→Prop) (c:Act) (w:World) (hb:Zgj p nr f t s pv B0 K c) (hW:Zeo p nr f t s pv B0 K w) (hF:∀ q0 ∈ Zh5 11,Zf (Za3 p nr f t s pv B0 K) q0 (val Zi3 c q0) w) :
  Zak Tryz.prog Zi3 Q (Zf (Za3 p nr f t s pv B0 K)) 11 c w:=by
 have ho:Zi3[11]?=some (⟨some 12,.alloc 49,0, "edit.go:44",#[],none⟩:Oper):=by kernel_rfl
 have hw:Region.wanted (⟨some 12,.alloc 49,0, "edit.go:44",#[],none⟩:Oper) (yielded Zi3 c.tmps)=true:=Zn rfl
 have ec:=evc c
 have ef:=evf c
 refine Ze ho hw (v:=.pointer (some ⟨w.heap.size,0,none⟩)) (w':=w.alloc (.cells #[.int .i64 0,.int .i64 0,.int .i64 0,.string ⟨#[]⟩,.slice none 0 0] 49)) ?_ ⟨w.heap.size,rfl,hW.b0,Zl _ _ _⟩ ((Below.refl _ _).alloc (Nat.le_refl _) _)
 generalize c.eval=ρ at *
 clear hF hb hW hw ho
 go_simp
theorem Zt4 (p:GP) (nr f t:Int) (s:ByteArray) (pv:Value) (B0:Nat) (K:World→Value→Prop):∀ pr ∈ Za3 p nr f t s pv B0 K,Zbv pr:=by
 unfold Za3
 iterate 12 (first | refine List.forall_mem_cons.2 ⟨Jb _,?_⟩ | refine List.forall_mem_cons.2 ⟨fun v w w' ⟨a,n,c,h,hk⟩ hb=>⟨a,n,c,h,hk.grow hb⟩,?_⟩ | refine List.forall_mem_cons.2 ⟨fun v w w' ⟨a,n,c,h,hk⟩ hb=>⟨a,n,c,h,hk.grow hb⟩,?_⟩ | refine List.forall_mem_cons.2 ⟨fun v w w' ⟨X,h,hX,hr⟩ hb=>⟨X,h,hX,hr.below hb hr.lt⟩,?_⟩)
 exact List.forall_mem_nil _
theorem Jcd (p:GP) (nr f t:Int) (s:ByteArray) (pv:Value) (B0:Nat) (K:World→Value→Prop) (Q:Exit→Act→World→Prop):∀ i,i<12→(fun i=>i ∉ ([9,10,11]:List Nat)→∀ c w,Zgj p nr f t s pv B0 K c→Zeo p nr f t s pv B0 K w→(∀ q0 ∈ Zh5 i,Zf (Za3 p nr f t s pv B0 K) q0 (val Zi3 c q0) w)→Zak Tryz.prog Zi3 Q (Zf (Za3 p nr f t s pv B0 K)) i c w) i:=by
 iterate 12 (refine Zd ?_ (by
  intro hn c w hb hW hF
  first
  | exact absurd (by decide) hn
  | (have hEq:=Zag Jcb (by decide) hF
     refine Zar Jcb (by decide) rfl (fun _=>rfl) ?_
     obtain ⟨t0,t1,t2,t3,t4⟩:=hb
     obtain ⟨c3,b0,k6⟩:=hW
     have ec:=evc c
     have ef:=evf c
     dsimp only [Zh5,Je9,Za3,nth,Zcp,Zbd,eqv] at hEq ⊢
     refine .inl fun pos af=>?_
     clear hF hn k6
     dsimp only [Sig.oper]
     generalize c.eval=ρ at *
     go_simp
     done)))
 exact Zj
theorem Jce (p:GP) (nr f t:Int) (s:ByteArray) (pv:Value) (B0:Nat) (K:World→Value→Prop) (Q:Exit→Act→World→Prop):∀ i,i<12→(fun i=>∀ c w,Zgj p nr f t s pv B0 K c→Zeo p nr f t s pv B0 K w→(∀ q0 ∈ Zh5 i,Zf (Za3 p nr f t s pv B0 K) q0 (val Zi3 c q0) w)→Zak Tryz.prog Zi3 Q (Zf (Za3 p nr f t s pv B0 K)) i c w) i:=by
 intro i hi
 by_cases h9:i=9
 ·subst h9;exact fun c w=>Jcc p nr f t s pv B0 K Q c w
 by_cases h10:i=10
 ·subst h10;exact fun c w=>Zz8 p nr f t s pv B0 K Q c w
 by_cases h11:i=11
 ·subst h11;exact fun c w=>Zz9 p nr f t s pv B0 K Q c w
 exact Jcd p nr f t s pv B0 K Q i hi (by simp [*])
theorem Zt5 (p:GP) (nr f t:Int) (s:ByteArray) (pv:Value) (B0:Nat) (K:World→Value→Prop) (Q:Exit→Act→World→Prop) (base:Act) (w0:World) (hsz:base.tmps.size=78) (hb:Zgj p nr f t s pv B0 K base)
  (hW:∀ w,Below w0.heap.size w0 w→Zeo p nr f t s pv B0 K w) (hL:∀ c w,Zae Zi3 base c→Below w0.heap.size w0 w→(fun v w=>∃ a n c,v=.agg #[.int .i64 nr,.int .i64 f,.int .i64 t,.string s,.slice a n c]∧KB K w (.slice a n c)) (c.eval (.tmp 55)) w→(fun v w=>∃ X,v=.pointer (some ⟨X,0,none⟩)∧B0≤X∧Rec w X #[.int .i64 0,.int .i64 0,.int .i64 0,.string ⟨#[]⟩,.slice none 0 0] 49) (c.eval (.tmp 12)) w→∃ w',(execOp c.eval (⟨none,.store 49 (.tmp 12) (.tmp 55),0, "edit.go:44",#[⟨11,.data⟩,⟨10,.data⟩,⟨9,.chain⟩,⟨0,.phase⟩,⟨1,.phase⟩,⟨2,.phase⟩,⟨3,.phase⟩,⟨4,.phase⟩,⟨5,.phase⟩,⟨6,.phase⟩,⟨7,.phase⟩,⟨8,.phase⟩,⟨9,.phase⟩,⟨10,.phase⟩,⟨11,.phase⟩],none⟩:Oper)).run Tryz.prog w=.ok .skip w'∧Q .normal c w'):(Code.region 9 Zi3 true).wp Tryz.prog Q base w0:=by
 have hall:(List.range 12).all (fun i=>(Zu Zi3 i).isSome)=true:=by kernel_rfl
 refine Zb3 (A:=Zh5) (F:=Zf (Za3 p nr f t s pv B0 K)) 12 (by kernel_rfl) (by kernel_rfl) (by kernel_rfl) (by rw [hsz];kernel_rfl) ?_ (by decide) (fun i v w w'=>Jd (Zt4 p nr f t s pv B0 K) i v w w') ?_ ?_
 ·exact fun i hi=>Option.isSome_iff_exists.1 (List.all_eq_true.1 hall i (List.mem_range.2 hi))
 ·intro i hi c w hS hB hF
  exact Jce p nr f t s pv B0 K Q i hi c w ⟨(Zc hS (by kernel_rfl)).trans hb.t0,(Zc hS (by kernel_rfl)).trans hb.t1,(Zc hS (by kernel_rfl)).trans hb.t2,(Zc hS (by kernel_rfl)).trans hb.t3,(Zc hS (by kernel_rfl)).trans hb.t4⟩ (hW w hB) hF
 ·intro c w hS hB hF
  obtain ⟨w',h1,h2⟩:=hL c w hS hB (Je (p:=fun v w=>∃ a n c,v=.agg #[.int .i64 nr,.int .i64 f,.int .i64 t,.string s,.slice a n c]∧KB K w (.slice a n c)) (by kernel_rfl) rfl (hF 10 (by omega))) (Je (p:=fun v w=>∃ X,v=.pointer (some ⟨X,0,none⟩)∧B0≤X∧Rec w X #[.int .i64 0,.int .i64 0,.int .i64 0,.string ⟨#[]⟩,.slice none 0 0] 49) (by kernel_rfl) rfl (hF 11 (by omega)))
  exact Za6 (by kernel_rfl) (Zn rfl) h1 h2
noncomputable def Zkm  : Array Oper:=Jg Tryz.f32 10
def Jaa  : List Sig:=[⟨56,.move (.tmp 0),31,none⟩,⟨57,.nilCheck (.tmp 56),0,none⟩,⟨58,.fieldAddr 74 (.tmp 57) 0,0,none⟩,⟨59,.fieldAddr 71 (.tmp 58) 1,0,none⟩,⟨60,.load 69 (.tmp 59),69,none⟩,⟨61,.fieldAddr 49 (.tmp 12) 0,0,none⟩,⟨62,.load 2 (.tmp 61),2,none⟩,⟨63,.load 49 (.tmp 12),49,none⟩]
theorem Zy0  : (Jq Zkm).take Jaa.length=Jaa.map some:=by kernel_rfl
def Zkn (i:Nat):List Nat:=nth [] [[],[0],[1],[2],[3],[],[5],[],[0,1,2,3,4,5,6,7]] i
def Zb8 (p:GP) (nr f t:Int) (s:ByteArray) (X:Nat) (pa:Option Addr) (pn pc:Nat):List (Value→World→Prop) :=
 [eqv (.pointer (some ⟨p.g,0,none⟩)),eqv (.pointer (some ⟨p.g,0,none⟩)),eqv (.pointer (some ⟨p.g,0,none⟩)),eqv (.pointer (some ⟨p.g,1,none⟩)),eqv (.map (some p.r)),eqv (.pointer (some ⟨X,0,none⟩)),eqv (.int .i64 nr),eqv (.agg #[.int .i64 nr,.int .i64 f,.int .i64 t,.string s,.slice pa pn pc])]
structure Zko (p:GP) (nr f t:Int) (s:ByteArray) (X:Nat) (pa:Option Addr) (pn pc:Nat) (c:Act):Prop where
 t0:c.eval (.tmp 0)=.pointer (some ⟨p.g,0,none⟩)
 t12:c.eval (.tmp 12)=.pointer (some ⟨X,0,none⟩)
structure Zh6 (p:GP) (nr f t:Int) (s:ByteArray) (X:Nat) (pa:Option Addr) (pn pc:Nat) (w:World):Prop where
 c1:w.cell? ⟨p.g,1,none⟩=some (.map (some p.r))
 x0:w.cell? ⟨X,0,none⟩=some (.int .i64 nr)
 x1:w.cell? ⟨X,1,none⟩=some (.int .i64 f)
 x2:w.cell? ⟨X,2,none⟩=some (.int .i64 t)
 x3:w.cell? ⟨X,3,none⟩=some (.string s)
 x4:w.cell? ⟨X,4,none⟩=some (.slice pa pn pc)
theorem Zq3 (p:GP) (nr f t:Int) (s:ByteArray) (X:Nat) (pa:Option Addr) (pn pc:Nat):∀ pr ∈ Zb8 p nr f t s X pa pn pc,Zbv pr:=by
 unfold Zb8
 iterate 8 (first | refine List.forall_mem_cons.2 ⟨Jb _,?_⟩)
 exact List.forall_mem_nil _
theorem Jab (p:GP) (nr f t:Int) (s:ByteArray) (X:Nat) (pa:Option Addr) (pn pc:Nat) (Q:Exit→Act→World→Prop):∀ i,i<8→(fun i=>i ∉ ([]:List Nat)→∀ c w,Zko p nr f t s X pa pn pc c→Zh6 p nr f t s X pa pn pc w→(∀ q0 ∈ Zkn i,Zf (Zb8 p nr f t s X pa pn pc) q0 (val Zkm c q0) w)→Zak Tryz.prog Zkm Q (Zf (Zb8 p nr f t s X pa pn pc)) i c w) i:=by
 iterate 8 (refine Zd ?_ (by
  intro hn c w hb hW hF
  first
  | exact absurd (by decide) hn
  | (have hEq:=Zag Zy0 (by decide) hF
     refine Zar Zy0 (by decide) rfl (fun _=>rfl) ?_
     obtain ⟨t0,t12⟩:=hb
     obtain ⟨c1,x0,x1,x2,x3,x4⟩:=hW
     have ec:=evc c
     have ef:=evf c
     dsimp only [Zkn,Jaa,Zb8,nth,Zcp,Zbd,eqv] at hEq ⊢
     refine .inl fun pos af=>?_
     clear hF hn
     dsimp only [Sig.oper]
     generalize c.eval=ρ at *
     go_simp
     done)))
 exact Zj
theorem Jac (p:GP) (nr f t:Int) (s:ByteArray) (X:Nat) (pa:Option Addr) (pn pc:Nat) (Q:Exit→Act→World→Prop):∀ i,i<8→(fun i=>∀ c w,Zko p nr f t s X pa pn pc c→Zh6 p nr f t s X pa pn pc w→(∀ q0 ∈ Zkn i,Zf (Zb8 p nr f t s X pa pn pc) q0 (val Zkm c q0) w)→Zak Tryz.prog Zkm Q (Zf (Zb8 p nr f t s X pa pn pc)) i c w) i:=by
 intro i hi
 exact Jab p nr f t s X pa pn pc Q i hi (by simp [*])
theorem Zq4 (p:GP) (nr f t:Int) (s:ByteArray) (X:Nat) (pa:Option Addr) (pn pc:Nat) (Q:Exit→Act→World→Prop) (base:Act) (w0:World) (hsz:base.tmps.size=78) (hb:Zko p nr f t s X pa pn pc base)
  (hW:∀ w,Below w0.heap.size w0 w→Zh6 p nr f t s X pa pn pc w) (hL:∀ c w,Zae Zkm base c→Below w0.heap.size w0 w→c.eval (.tmp 60)=.map (some p.r)→c.eval (.tmp 62)=.int .i64 nr→c.eval (.tmp 63)=.agg #[.int .i64 nr,.int .i64 f,.int .i64 t,.string s,.slice pa pn pc]→∃ w',(execOp c.eval (⟨none,.mapUpdate 69 (.tmp 60) (.tmp 62) (.tmp 63),0, "edit.go:45",#[⟨4,.data⟩,⟨6,.data⟩,⟨7,.data⟩,⟨0,.phase⟩,⟨1,.phase⟩,⟨2,.phase⟩,⟨3,.phase⟩,⟨4,.phase⟩,⟨5,.phase⟩,⟨6,.phase⟩,⟨7,.phase⟩],none⟩:Oper)).run Tryz.prog w=.ok .skip w'∧Q .normal c w'):(Code.region 10 Zkm true).wp Tryz.prog Q base w0:=by
 have hall:(List.range 8).all (fun i=>(Zu Zkm i).isSome)=true:=by kernel_rfl
 refine Zb3 (A:=Zkn) (F:=Zf (Zb8 p nr f t s X pa pn pc)) 8 (by kernel_rfl) (by kernel_rfl) (by kernel_rfl) (by rw [hsz];kernel_rfl) ?_ (by decide) (fun i v w w'=>Jd (Zq3 p nr f t s X pa pn pc) i v w w') ?_ ?_
 ·exact fun i hi=>Option.isSome_iff_exists.1 (List.all_eq_true.1 hall i (List.mem_range.2 hi))
 ·intro i hi c w hS hB hF
  exact Jac p nr f t s X pa pn pc Q i hi c w ⟨(Zc hS (by kernel_rfl)).trans hb.t0,(Zc hS (by kernel_rfl)).trans hb.t12⟩ (hW w hB) hF
 ·intro c w hS hB hF
  obtain ⟨w',h1,h2⟩:=hL c w hS hB (Je (p:=eqv (.map (some p.r))) (by kernel_rfl) rfl (hF 4 (by omega))) (Je (p:=eqv (.int .i64 nr)) (by kernel_rfl) rfl (hF 6 (by omega))) (Je (p:=eqv (.agg #[.int .i64 nr,.int .i64 f,.int .i64 t,.string s,.slice pa pn pc])) (by kernel_rfl) rfl (hF 7 (by omega)))
  exact Za6 (by kernel_rfl) (Zn rfl) h1 h2
noncomputable def Zl8  : Array Oper:=Jg Tryz.f40 1
def Jfa  : List Sig:=[⟨4,.move (.tmp 0),31,none⟩,⟨5,.nilCheck (.tmp 4),0,none⟩,⟨6,.fieldAddr 74 (.tmp 5) 1,0,none⟩,⟨7,.load 72 (.tmp 6),72,none⟩,⟨8,.fieldAddr 49 (.tmp 3) 1,0,none⟩,⟨9,.load 2 (.tmp 8),2,none⟩,⟨10,.move (.tmp 0),31,none⟩,⟨11,.nilCheck (.tmp 10),0,none⟩,⟨12,.fieldAddr 74 (.tmp 11) 1,0,none⟩,⟨13,.load 72 (.tmp 12),72,none⟩,⟨14,.fieldAddr 49 (.tmp 3) 1,0,none⟩,⟨15,.load 2 (.tmp 14),2,none⟩,⟨16,.lookup 72 (.tmp 13) (.tmp 15) false,100,none⟩,⟨17,.fieldAddr 49 (.tmp 3) 0,0,none⟩,⟨18,.load 2 (.tmp 17),2,none⟩,⟨19,.buildSlice 100 1 #[(0,.tmp 18)],100,none⟩,⟨20,.call { callee:=.builtin .append,args:=#[.tmp 16,.tmp 19],argTypes:=#[100,100] },100,none⟩]
theorem Jcf  : (Jq Zl8).take Jfa.length=Jfa.map some:=by kernel_rfl
def Zji (i:Nat):List Nat:=nth [] [[],[0],[1],[2],[],[4],[],[6],[7],[8],[],[10],[9,11],[],[13],[14],[12,15],[0,1,2,3,4,5,6,7,8,9,10,11,12,13,14,15,16]] i
def Zbj (p:GP) (id k:Int) (X B0:Nat):List (Value→World→Prop) :=
 [eqv (.pointer (some ⟨p.g,0,none⟩)),eqv (.pointer (some ⟨p.g,0,none⟩)),eqv (.pointer (some ⟨p.g,4,none⟩)),eqv (.map (some p.f)),eqv (.pointer (some ⟨X,1,none⟩)),eqv (.int .i64 k),eqv (.pointer (some ⟨p.g,0,none⟩)),eqv (.pointer (some ⟨p.g,0,none⟩)),eqv (.pointer (some ⟨p.g,4,none⟩)),eqv (.map (some p.f)),eqv (.pointer (some ⟨X,1,none⟩)),eqv (.int .i64 k),eqv (.slice none 0 0),eqv (.pointer (some ⟨X,0,none⟩)),eqv (.int .i64 id),laid [id],fun v w=>w.ownsRow B0 2 1 v 1 [.int .i64 id]∧∃ a c,v=.slice a 1 c]
structure Zh7 (p:GP) (id k:Int) (X B0:Nat) (c:Act):Prop where
 t0:c.eval (.tmp 0)=.pointer (some ⟨p.g,0,none⟩)
 t3:c.eval (.tmp 3)=.pointer (some ⟨X,0,none⟩)
structure Zfx (p:GP) (id k:Int) (X B0:Nat) (w:World):Prop where
 cm:w.cell? ⟨p.g,4,none⟩=some (.map (some p.f))
 xk:w.cell? ⟨X,1,none⟩=some (.int .i64 k)
 xi:w.cell? ⟨X,0,none⟩=some (.int .i64 id)
 lk:(Instr.lookup 72 (.map (some p.f)) (.int .i64 k) false).run Tryz.prog w=.ok (.slice none 0 0) w
 b0:B0≤w.heap.size
theorem Jad (p:GP) (id k:Int) (X B0:Nat) (Q:Exit→Act→World→Prop) (c:Act) (w:World) (hb:Zh7 p id k X B0 c) (hW:Zfx p id k X B0 w) (hF:∀ q0 ∈ Zji 15,Zf (Zbj p id k X B0) q0 (val Zl8 c q0) w) :
  Zak Tryz.prog Zl8 Q (Zf (Zbj p id k X B0)) 15 c w:=by
 have ho:Zl8[15]?=some (⟨some 19,.buildSlice 100 1 #[(0,.tmp 18)],100, "edit.go:126",#[⟨14,.data⟩],none⟩:Oper):=by kernel_rfl
 have e18:c.eval (.tmp 18)=.int .i64 id:=Zi (by kernel_rfl) rfl (hF 14 (by decide))
 have hw:Region.wanted (⟨some 19,.buildSlice 100 1 #[(0,.tmp 18)],100, "edit.go:126",#[⟨14,.data⟩],none⟩:Oper) (yielded Zl8 c.tmps)=true:=Zn rfl
 have ec:=evc c
 have ef:=evf c
 refine Ze ho hw (v:=.slice (some ⟨w.heap.size,0,none⟩) 1 1) (w':=w.alloc (.cells #[.int .i64 id] 2)) ?_ ⟨w.heap.size,rfl,by simp,fun j hj=>?_⟩ ((Below.refl _ _).alloc (Nat.le_refl _) _)
 ·generalize c.eval=ρ at *
  clear hF hb hW hw ho
  go_simp
 ·have hj0:j=0:=by simp at hj;omega
  subst hj0
  exact Zaf _ _ _ _ _ rfl
theorem Jae (p:GP) (id k:Int) (X B0:Nat) (Q:Exit→Act→World→Prop) (c:Act) (w:World) (hb:Zh7 p id k X B0 c) (hW:Zfx p id k X B0 w) (hF:∀ q0 ∈ Zji 16,Zf (Zbj p id k X B0) q0 (val Zl8 c q0) w) :
  Zak Tryz.prog Zl8 Q (Zf (Zbj p id k X B0)) 16 c w:=by
 have ho:Zl8[16]?=some (⟨some 20,.call { callee:=.builtin .append,args:=#[.tmp 16,.tmp 19],argTypes:=#[100,100] },100, "edit.go:126",#[⟨12,.data⟩,⟨15,.data⟩],none⟩:Oper):=by kernel_rfl
 have e16:c.eval (.tmp 16)=.slice none 0 0:=Zi (by kernel_rfl) rfl (hF 12 (by decide))
 have f19:(laid [id]) (c.eval (.tmp 19)) w:=Je (by kernel_rfl) rfl (hF 15 (by decide))
 have hw:Region.wanted (⟨some 20,.call { callee:=.builtin .append,args:=#[.tmp 16,.tmp 19],argTypes:=#[100,100] },100, "edit.go:126",#[⟨12,.data⟩,⟨15,.data⟩],none⟩:Oper) (yielded Zl8 c.tmps)=true:=Zn rfl
 have ec:=evc c
 have ef:=evf c
 obtain ⟨i0,hi,hz0,hz1,hz2⟩:=info_parts Tryz.info2
 obtain ⟨y,e19,hy,hyc⟩:=f19
 obtain ⟨v',w',hrun,hown,hgr,_,_⟩:=run_append_own_at (P:=Tryz.prog) w B0 100 100 2 i0 (.int .i64 0) 1 8 Tryz.underlying100 hi hz0 hz1 hz2 rfl (by decide) (.slice none 0 0) 0 [] (World.ownsRow_nil _ _ _ _) ⟨y,0,none⟩ 1 1 [.int .i64 id] rfl (fun j u hj=>by
  have hj0:j=0:=by
   have:=(List.getElem?_eq_some_iff.1 hj).1
   simp at this;omega
  subst hj0
  have:u=.int .i64 id:=by simpa using hj.symm
  subst this
  have hadd:(⟨y,0,none⟩:Addr).add 0=⟨y,0,none⟩:=by unfold Addr.add;split<;>simp_all
  rw [hadd]
  exact hyc 0 (by simp)) (by intro u hu;simp only [List.mem_cons,List.not_mem_nil,or_false] at hu;subst hu;rfl) (by unfold maxLen;omega) (by omega) hW.b0
 obtain ⟨ua,uc,rfl⟩:=Zw hown
 refine Ze ho hw (v:=.slice ua (0+1) uc) (w':=w') ?_ ⟨hown,ua,uc,rfl⟩ ((Below.refl _ w).grown hgr (Nat.le_refl _) (fun q h=>by cases h))
 exact Zb0 e16 e19 hrun
theorem Zt6 (p:GP) (id k:Int) (X B0:Nat):∀ pr ∈ Zbj p id k X B0,Zbv pr:=by
 unfold Zbj
 iterate 17 (first | refine List.forall_mem_cons.2 ⟨Jb _,?_⟩ | refine List.forall_mem_cons.2 ⟨Zdu _,?_⟩ | refine List.forall_mem_cons.2 ⟨fun v w w' ⟨h,h2⟩ hb=>⟨Zt h fun g _ hg=>hb.block g hg,h2⟩,?_⟩)
 exact List.forall_mem_nil _
theorem Jcg (p:GP) (id k:Int) (X B0:Nat) (Q:Exit→Act→World→Prop):∀ i,i<17→(fun i=>i ∉ ([15,16]:List Nat)→∀ c w,Zh7 p id k X B0 c→Zfx p id k X B0 w→(∀ q0 ∈ Zji i,Zf (Zbj p id k X B0) q0 (val Zl8 c q0) w)→Zak Tryz.prog Zl8 Q (Zf (Zbj p id k X B0)) i c w) i:=by
 iterate 17 (refine Zd ?_ (by
  intro hn c w hb hW hF
  first
  | exact absurd (by decide) hn
  | (have hEq:=Zag Jcf (by decide) hF
     refine Zar Jcf (by decide) rfl (fun _=>rfl) ?_
     obtain ⟨t0,t3⟩:=hb
     obtain ⟨cm,xk,xi,lk,b0⟩:=hW
     have ec:=evc c
     have ef:=evf c
     dsimp only [Zji,Jfa,Zbj,nth,Zcp,Zbd,eqv] at hEq ⊢
     refine .inl fun pos af=>?_
     clear hF hn
     dsimp only [Sig.oper]
     generalize c.eval=ρ at *
     go_simp
     done)))
 exact Zj
theorem Jch (p:GP) (id k:Int) (X B0:Nat) (Q:Exit→Act→World→Prop):∀ i,i<17→(fun i=>∀ c w,Zh7 p id k X B0 c→Zfx p id k X B0 w→(∀ q0 ∈ Zji i,Zf (Zbj p id k X B0) q0 (val Zl8 c q0) w)→Zak Tryz.prog Zl8 Q (Zf (Zbj p id k X B0)) i c w) i:=by
 intro i hi
 by_cases h15:i=15
 ·subst h15;exact fun c w=>Jad p id k X B0 Q c w
 by_cases h16:i=16
 ·subst h16;exact fun c w=>Jae p id k X B0 Q c w
 exact Jcg p id k X B0 Q i hi (by simp [*])
theorem Zt7 (p:GP) (id k:Int) (X B0:Nat) (Q:Exit→Act→World→Prop) (base:Act) (w0:World) (hsz:base.tmps.size=38) (hb:Zh7 p id k X B0 base)
  (hW:∀ w,Below w0.heap.size w0 w→Zfx p id k X B0 w) (hL:∀ c w,Zae Zl8 base c→Below w0.heap.size w0 w→c.eval (.tmp 7)=.map (some p.f)→c.eval (.tmp 9)=.int .i64 k→(fun v w=>w.ownsRow B0 2 1 v 1 [.int .i64 id]∧∃ a c,v=.slice a 1 c) (c.eval (.tmp 20)) w→∃ w',(execOp c.eval (⟨none,.mapUpdate 72 (.tmp 7) (.tmp 9) (.tmp 20),0, "edit.go:126",#[⟨3,.data⟩,⟨5,.data⟩,⟨16,.data⟩,⟨16,.chain⟩,⟨0,.phase⟩,⟨1,.phase⟩,⟨2,.phase⟩,⟨3,.phase⟩,⟨4,.phase⟩,⟨5,.phase⟩,⟨6,.phase⟩,⟨7,.phase⟩,⟨8,.phase⟩,⟨9,.phase⟩,⟨10,.phase⟩,⟨11,.phase⟩,⟨12,.phase⟩,⟨13,.phase⟩,⟨14,.phase⟩,⟨15,.phase⟩,⟨16,.phase⟩],none⟩:Oper)).run Tryz.prog w=.ok .skip w'∧Q .normal c w'):(Code.region 1 Zl8 true).wp Tryz.prog Q base w0:=by
 have hall:(List.range 17).all (fun i=>(Zu Zl8 i).isSome)=true:=by kernel_rfl
 refine Zb3 (A:=Zji) (F:=Zf (Zbj p id k X B0)) 17 (by kernel_rfl) (by kernel_rfl) (by kernel_rfl) (by rw [hsz];kernel_rfl) ?_ (by decide) (fun i v w w'=>Jd (Zt6 p id k X B0) i v w w') ?_ ?_
 ·exact fun i hi=>Option.isSome_iff_exists.1 (List.all_eq_true.1 hall i (List.mem_range.2 hi))
 ·intro i hi c w hS hB hF
  exact Jch p id k X B0 Q i hi c w ⟨(Zc hS (by kernel_rfl)).trans hb.t0,(Zc hS (by kernel_rfl)).trans hb.t3⟩ (hW w hB) hF
 ·intro c w hS hB hF
  obtain ⟨w',h1,h2⟩:=hL c w hS hB (Je (p:=eqv (.map (some p.f))) (by kernel_rfl) rfl (hF 3 (by omega))) (Je (p:=eqv (.int .i64 k)) (by kernel_rfl) rfl (hF 5 (by omega))) (Je (p:=fun v w=>w.ownsRow B0 2 1 v 1 [.int .i64 id]∧∃ a c,v=.slice a 1 c) (by kernel_rfl) rfl (hF 16 (by omega)))
  exact Za6 (by kernel_rfl) (Zn rfl) h1 h2
noncomputable def Zl9  : Array Oper:=Jg Tryz.f40 2
def Jfb  : List Sig:=[⟨21,.move (.tmp 0),31,none⟩,⟨22,.nilCheck (.tmp 21),0,none⟩,⟨23,.fieldAddr 74 (.tmp 22) 2,0,none⟩,⟨24,.load 72 (.tmp 23),72,none⟩,⟨25,.fieldAddr 49 (.tmp 3) 2,0,none⟩,⟨26,.load 2 (.tmp 25),2,none⟩,⟨27,.move (.tmp 0),31,none⟩,⟨28,.nilCheck (.tmp 27),0,none⟩,⟨29,.fieldAddr 74 (.tmp 28) 2,0,none⟩,⟨30,.load 72 (.tmp 29),72,none⟩,⟨31,.fieldAddr 49 (.tmp 3) 2,0,none⟩,⟨32,.load 2 (.tmp 31),2,none⟩,⟨33,.lookup 72 (.tmp 30) (.tmp 32) false,100,none⟩,⟨34,.fieldAddr 49 (.tmp 3) 0,0,none⟩,⟨35,.load 2 (.tmp 34),2,none⟩,⟨36,.buildSlice 100 1 #[(0,.tmp 35)],100,none⟩,⟨37,.call { callee:=.builtin .append,args:=#[.tmp 33,.tmp 36],argTypes:=#[100,100] },100,none⟩]
theorem Jci  : (Jq Zl9).take Jfb.length=Jfb.map some:=by kernel_rfl
def Zjj (i:Nat):List Nat:=nth [] [[],[0],[1],[2],[],[4],[],[6],[7],[8],[],[10],[9,11],[],[13],[14],[12,15],[0,1,2,3,4,5,6,7,8,9,10,11,12,13,14,15,16]] i
def Zbk (p:GP) (id k:Int) (X B0:Nat):List (Value→World→Prop) :=
 [eqv (.pointer (some ⟨p.g,0,none⟩)),eqv (.pointer (some ⟨p.g,0,none⟩)),eqv (.pointer (some ⟨p.g,5,none⟩)),eqv (.map (some p.t)),eqv (.pointer (some ⟨X,2,none⟩)),eqv (.int .i64 k),eqv (.pointer (some ⟨p.g,0,none⟩)),eqv (.pointer (some ⟨p.g,0,none⟩)),eqv (.pointer (some ⟨p.g,5,none⟩)),eqv (.map (some p.t)),eqv (.pointer (some ⟨X,2,none⟩)),eqv (.int .i64 k),eqv (.slice none 0 0),eqv (.pointer (some ⟨X,0,none⟩)),eqv (.int .i64 id),laid [id],fun v w=>w.ownsRow B0 2 1 v 1 [.int .i64 id]∧∃ a c,v=.slice a 1 c]
structure Zh8 (p:GP) (id k:Int) (X B0:Nat) (c:Act):Prop where
 t0:c.eval (.tmp 0)=.pointer (some ⟨p.g,0,none⟩)
 t3:c.eval (.tmp 3)=.pointer (some ⟨X,0,none⟩)
structure Zfy (p:GP) (id k:Int) (X B0:Nat) (w:World):Prop where
 cm:w.cell? ⟨p.g,5,none⟩=some (.map (some p.t))
 xk:w.cell? ⟨X,2,none⟩=some (.int .i64 k)
 xi:w.cell? ⟨X,0,none⟩=some (.int .i64 id)
 lk:(Instr.lookup 72 (.map (some p.t)) (.int .i64 k) false).run Tryz.prog w=.ok (.slice none 0 0) w
 b0:B0≤w.heap.size
theorem Jaf (p:GP) (id k:Int) (X B0:Nat) (Q:Exit→Act→World→Prop) (c:Act) (w:World) (hb:Zh8 p id k X B0 c) (hW:Zfy p id k X B0 w) (hF:∀ q0 ∈ Zjj 15,Zf (Zbk p id k X B0) q0 (val Zl9 c q0) w) :
  Zak Tryz.prog Zl9 Q (Zf (Zbk p id k X B0)) 15 c w:=by
 have ho:Zl9[15]?=some (⟨some 36,.buildSlice 100 1 #[(0,.tmp 35)],100, "edit.go:127",#[⟨14,.data⟩],none⟩:Oper):=by kernel_rfl
 have e35:c.eval (.tmp 35)=.int .i64 id:=Zi (by kernel_rfl) rfl (hF 14 (by decide))
 have hw:Region.wanted (⟨some 36,.buildSlice 100 1 #[(0,.tmp 35)],100, "edit.go:127",#[⟨14,.data⟩],none⟩:Oper) (yielded Zl9 c.tmps)=true:=Zn rfl
 have ec:=evc c
 have ef:=evf c
 refine Ze ho hw (v:=.slice (some ⟨w.heap.size,0,none⟩) 1 1) (w':=w.alloc (.cells #[.int .i64 id] 2)) ?_ ⟨w.heap.size,rfl,by simp,fun j hj=>?_⟩ ((Below.refl _ _).alloc (Nat.le_refl _) _)
 ·generalize c.eval=ρ at *
  clear hF hb hW hw ho
  go_simp
 ·have hj0:j=0:=by simp at hj;omega
  subst hj0
  exact Zaf _ _ _ _ _ rfl
theorem Jag (p:GP) (id k:Int) (X B0:Nat) (Q:Exit→Act→World→Prop) (c:Act) (w:World) (hb:Zh8 p id k X B0 c) (hW:Zfy p id k X B0 w) (hF:∀ q0 ∈ Zjj 16,Zf (Zbk p id k X B0) q0 (val Zl9 c q0) w) :
  Zak Tryz.prog Zl9 Q (Zf (Zbk p id k X B0)) 16 c w:=by
 have ho:Zl9[16]?=some (⟨some 37,.call { callee:=.builtin .append,args:=#[.tmp 33,.tmp 36],argTypes:=#[100,100] },100, "edit.go:127",#[⟨12,.data⟩,⟨15,.data⟩],none⟩:Oper):=by kernel_rfl
 have e33:c.eval (.tmp 33)=.slice none 0 0:=Zi (by kernel_rfl) rfl (hF 12 (by decide))
 have f36:(laid [id]) (c.eval (.tmp 36)) w:=Je (by kernel_rfl) rfl (hF 15 (by decide))
 have hw:Region.wanted (⟨some 37,.call { callee:=.builtin .append,args:=#[.tmp 33,.tmp 36],argTypes:=#[100,100] },100, "edit.go:127",#[⟨12,.data⟩,⟨15,.data⟩],none⟩:Oper) (yielded Zl9 c.tmps)=true:=Zn rfl
 have ec:=evc c
 have ef:=evf c
 obtain ⟨i0,hi,hz0,hz1,hz2⟩:=info_parts Tryz.info2
 obtain ⟨y,e36,hy,hyc⟩:=f36
 obtain ⟨v',w',hrun,hown,hgr,_,_⟩:=run_append_own_at (P:=Tryz.prog) w B0 100 100 2 i0 (.int .i64 0) 1 8 Tryz.underlying100 hi hz0 hz1 hz2 rfl (by decide) (.slice none 0 0) 0 [] (World.ownsRow_nil _ _ _ _) ⟨y,0,none⟩ 1 1 [.int .i64 id] rfl (fun j u hj=>by
  have hj0:j=0:=by
   have:=(List.getElem?_eq_some_iff.1 hj).1
   simp at this;omega
  subst hj0
  have:u=.int .i64 id:=by simpa using hj.symm
  subst this
  have hadd:(⟨y,0,none⟩:Addr).add 0=⟨y,0,none⟩:=by unfold Addr.add;split<;>simp_all
  rw [hadd]
  exact hyc 0 (by simp)) (by intro u hu;simp only [List.mem_cons,List.not_mem_nil,or_false] at hu;subst hu;rfl) (by unfold maxLen;omega) (by omega) hW.b0
 obtain ⟨ua,uc,rfl⟩:=Zw hown
 refine Ze ho hw (v:=.slice ua (0+1) uc) (w':=w') ?_ ⟨hown,ua,uc,rfl⟩ ((Below.refl _ w).grown hgr (Nat.le_refl _) (fun q h=>by cases h))
 exact Zb0 e33 e36 hrun
theorem Zt8 (p:GP) (id k:Int) (X B0:Nat):∀ pr ∈ Zbk p id k X B0,Zbv pr:=by
 unfold Zbk
 iterate 17 (first | refine List.forall_mem_cons.2 ⟨Jb _,?_⟩ | refine List.forall_mem_cons.2 ⟨Zdu _,?_⟩ | refine List.forall_mem_cons.2 ⟨fun v w w' ⟨h,h2⟩ hb=>⟨Zt h fun g _ hg=>hb.block g hg,h2⟩,?_⟩)
 exact List.forall_mem_nil _
theorem Jcj (p:GP) (id k:Int) (X B0:Nat) (Q:Exit→Act→World→Prop):∀ i,i<17→(fun i=>i ∉ ([15,16]:List Nat)→∀ c w,Zh8 p id k X B0 c→Zfy p id k X B0 w→(∀ q0 ∈ Zjj i,Zf (Zbk p id k X B0) q0 (val Zl9 c q0) w)→Zak Tryz.prog Zl9 Q (Zf (Zbk p id k X B0)) i c w) i:=by
 iterate 17 (refine Zd ?_ (by
  intro hn c w hb hW hF
  first
  | exact absurd (by decide) hn
  | (have hEq:=Zag Jci (by decide) hF
     refine Zar Jci (by decide) rfl (fun _=>rfl) ?_
     obtain ⟨t0,t3⟩:=hb
     obtain ⟨cm,xk,xi,lk,b0⟩:=hW
     have ec:=evc c
     have ef:=evf c
     dsimp only [Zjj,Jfb,Zbk,nth,Zcp,Zbd,eqv] at hEq ⊢
     refine .inl fun pos af=>?_
     clear hF hn
     dsimp only [Sig.oper]
     generalize c.eval=ρ at *
     go_simp
     done)))
 exact Zj
theorem Jck (p:GP) (id k:Int) (X B0:Nat) (Q:Exit→Act→World→Prop):∀ i,i<17→(fun i=>∀ c w,Zh8 p id k X B0 c→Zfy p id k X B0 w→(∀ q0 ∈ Zjj i,Zf (Zbk p id k X B0) q0 (val Zl9 c q0) w)→Zak Tryz.prog Zl9 Q (Zf (Zbk p id k X B0)) i c w) i:=by
 intro i hi
 by_cases h15:i=15
 ·subst h15;exact fun c w=>Jaf p id k X B0 Q c w
 by_cases h16:i=16
 ·subst h16;exact fun c w=>Jag p id k X B0 Q c w
 exact Jcj p id k X B0 Q i hi (by simp [*])
theorem Zt9 (p:GP) (id k:Int) (X B0:Nat) (Q:Exit→Act→World→Prop) (base:Act) (w0:World) (hsz:base.tmps.size=38) (hb:Zh8 p id k X B0 base)
  (hW:∀ w,Below w0.heap.size w0 w→Zfy p id k X B0 w) (hL:∀ c w,Zae Zl9 base c→Below w0.heap.size w0 w→c.eval (.tmp 24)=.map (some p.t)→c.eval (.tmp 26)=.int .i64 k→(fun v w=>w.ownsRow B0 2 1 v 1 [.int .i64 id]∧∃ a c,v=.slice a 1 c) (c.eval (.tmp 37)) w→∃ w',(execOp c.eval (⟨none,.mapUpdate 72 (.tmp 24) (.tmp 26) (.tmp 37),0, "edit.go:127",#[⟨3,.data⟩,⟨5,.data⟩,⟨16,.data⟩,⟨16,.chain⟩,⟨0,.phase⟩,⟨1,.phase⟩,⟨2,.phase⟩,⟨3,.phase⟩,⟨4,.phase⟩,⟨5,.phase⟩,⟨6,.phase⟩,⟨7,.phase⟩,⟨8,.phase⟩,⟨9,.phase⟩,⟨10,.phase⟩,⟨11,.phase⟩,⟨12,.phase⟩,⟨13,.phase⟩,⟨14,.phase⟩,⟨15,.phase⟩,⟨16,.phase⟩],none⟩:Oper)).run Tryz.prog w=.ok .skip w'∧Q .normal c w'):(Code.region 2 Zl9 true).wp Tryz.prog Q base w0:=by
 have hall:(List.range 17).all (fun i=>(Zu Zl9 i).isSome)=true:=by kernel_rfl
 refine Zb3 (A:=Zjj) (F:=Zf (Zbk p id k X B0)) 17 (by kernel_rfl) (by kernel_rfl) (by kernel_rfl) (by rw [hsz];kernel_rfl) ?_ (by decide) (fun i v w w'=>Jd (Zt8 p id k X B0) i v w w') ?_ ?_
 ·exact fun i hi=>Option.isSome_iff_exists.1 (List.all_eq_true.1 hall i (List.mem_range.2 hi))
 ·intro i hi c w hS hB hF
  exact Jck p id k X B0 Q i hi c w ⟨(Zc hS (by kernel_rfl)).trans hb.t0,(Zc hS (by kernel_rfl)).trans hb.t3⟩ (hW w hB) hF
 ·intro c w hS hB hF
  obtain ⟨w',h1,h2⟩:=hL c w hS hB (Je (p:=eqv (.map (some p.t))) (by kernel_rfl) rfl (hF 3 (by omega))) (Je (p:=eqv (.int .i64 k)) (by kernel_rfl) rfl (hF 5 (by omega))) (Je (p:=fun v w=>w.ownsRow B0 2 1 v 1 [.int .i64 id]∧∃ a c,v=.slice a 1 c) (by kernel_rfl) rfl (hF 16 (by omega)))
  exact Za6 (by kernel_rfl) (Zn rfl) h1 h2
end
