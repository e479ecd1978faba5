/- A relationship is added to a graph that is there. -/
import Derived.Test.YteddjlbfbpecjaaGreatDoorJoin8
import Derived.Test.YteddjlbfbpecjaaGreatDoorJoin1
import Derived.Shelf.SlGeneric
import Derived.Ground.SlgnProg
import Derived.Shelf.SlicesG.Delete
import Derived.Shelf.SlicesG.SearchI
import Derived.Shelf.SlicesG.CompactI
import Derived.Test.YteddjlbfbpecjaaGreatDoorProg
import Derived.Test.YteddjlbfbpecjaaGreatDoorJoin2
namespace Go.Proofs.YteddjlbfbpecjaaGreatDoor
section
open Go.RowKit Go.Shelf
set_option maxHeartbeats 8000000
set_option maxRecDepth 100000
set_option linter.all false
attribute [local go_sem] Oper.semAt_some
theorem Tryz.underlying72'  : Tryz.prog.underlying 72=some (.map 2 100):=by kernel_rfl
theorem Zkk (w:World):(zeroValue 100).run Tryz.prog w=.ok (.slice none 0 0) w:=by kernel_rfl
theorem Zq2 {w:World} {p:GP} {nn nr:Int} {N R F T:List (Int × Value)} (h:GS w p nn nr N R F T) (B:Nat) (hok:p.Ok B) (hB:B≤w.heap.size) (id f t:Int) (s:ByteArray) (pa:Option Addr) (pn pc:Nat) (hf:I64 f) (ht:I64 t) (hF:∀ q ∈ F,q.1≠f) (hT:∀ q ∈ T,q.1≠t) :
  Calls Tryz.prog 40 #[p.val,.agg #[.int .i64 id,.int .i64 f,.int .i64 t,.string s,.slice pa pn pc]] w fun e w'=>e=.returned (.tuple #[])∧∃ fv tv,GS w' p nn nr N R (F++[(f,fv)]) (T++[(t,tv)])∧w'.ownsRow w.heap.size 2 1 fv 1 [.int .i64 id]∧(∃ b,w.heap.size≤b∧w'.ownsRow b 2 1 tv 1 [.int .i64 id]∧∀ q,fv.ownBlock=some q→q<b)∧Below B w w'∧(∀ i,i<w.heap.size→i≠p.f→i≠p.t→w'.heap[i]?=w.heap[i]?):=by
 have HG:=Zb h
 have HOK:=Zb hok
 have HF:=Zb hF
 have HT:=Zb hT
 have hold:p.g<w.heap.size∧p.n<w.heap.size∧p.r<w.heap.size∧p.f<w.heap.size∧p.t<w.heap.size:=⟨h.obj.lt,h.n.lt,h.r.lt,h.f.lt,h.t.lt⟩
 obtain ⟨u1,u2,u3,u4,u5⟩:=hold
 clear h hok hF hT
 unfold GP.val
 go_enter Tryz.func40,Tryz.ntmps40
 go_upto_region 1 with fail
 generalize hW1:World.alloc _ _=W1
 have HB1:Hid (Below w.heap.size w W1):=by rw [← hW1];exact (Below.refl _ _).alloc (Nat.le_refl _) _
 have HR1:Hid (Rec W1 w.heap.size #[.int .i64 id,.int .i64 f,.int .i64 t,.string s,.slice pa pn pc] 49):=by rw [← hW1];exact Zl _ _ _
 have hs1:w.heap.size<W1.heap.size:=by rw [← hW1];simp
 have HG1:=Zb (HG.out.below HB1.out)
 clear hW1
 show (Code.region 1 Zl8 true).wp _ _ _ _
 refine Zt7 p id f w.heap.size W1.heap.size _ _ _ rfl ⟨rfl,rfl⟩ ?_ ?_
 ·intro W hW
  exact ⟨(hW.cell (p:=⟨p.g,4,none⟩) HG1.out.obj.lt).trans HG1.out.c4,(hW.cell (p:=⟨w.heap.size,1,none⟩) hs1).trans (HR1.out.cell 1 rfl),(hW.cell (p:=⟨w.heap.size,0,none⟩) hs1).trans (HR1.out.cell 0 rfl),(Zir Tryz.underlying72' Zkk (HG1.out.f.below hW (Nat.le_refl _)) f hf HF.out).2,hW.size⟩
 rintro c W2 hS hB2 e7 e9 ⟨hown,ua,uc,e20⟩
 obtain ⟨W3,hup,hmi,hs3,ho3,hb3⟩:=Zf6 Tryz.underlying72' (HG1.out.f.below hB2 (Nat.le_refl _)) f (.slice ua 1 uc) hf HF.out
 refine ⟨W3,?_,?_⟩
 ·generalize c.eval=ρ at *
  clear hS hmi ho3 hb3 hown
  go_simp
 rw [e20] at hown
 rw [Zao hS [4,5,6,7,8,9,10,11,12,13,14,15,16,17,18,19,20] (by kernel_rfl)]
 obtain ⟨y4,q4⟩:∃ y,c.eval (.tmp 4)=y:=⟨_,rfl⟩
 obtain ⟨y5,q5⟩:∃ y,c.eval (.tmp 5)=y:=⟨_,rfl⟩
 obtain ⟨y6,q6⟩:∃ y,c.eval (.tmp 6)=y:=⟨_,rfl⟩
 obtain ⟨y7,q7⟩:∃ y,c.eval (.tmp 7)=y:=⟨_,rfl⟩
 obtain ⟨y8,q8⟩:∃ y,c.eval (.tmp 8)=y:=⟨_,rfl⟩
 obtain ⟨y9,q9⟩:∃ y,c.eval (.tmp 9)=y:=⟨_,rfl⟩
 obtain ⟨y10,q10⟩:∃ y,c.eval (.tmp 10)=y:=⟨_,rfl⟩
 obtain ⟨y11,q11⟩:∃ y,c.eval (.tmp 11)=y:=⟨_,rfl⟩
 obtain ⟨y12,q12⟩:∃ y,c.eval (.tmp 12)=y:=⟨_,rfl⟩
 obtain ⟨y13,q13⟩:∃ y,c.eval (.tmp 13)=y:=⟨_,rfl⟩
 obtain ⟨y14,q14⟩:∃ y,c.eval (.tmp 14)=y:=⟨_,rfl⟩
 obtain ⟨y15,q15⟩:∃ y,c.eval (.tmp 15)=y:=⟨_,rfl⟩
 obtain ⟨y16,q16⟩:∃ y,c.eval (.tmp 16)=y:=⟨_,rfl⟩
 obtain ⟨y17,q17⟩:∃ y,c.eval (.tmp 17)=y:=⟨_,rfl⟩
 obtain ⟨y18,q18⟩:∃ y,c.eval (.tmp 18)=y:=⟨_,rfl⟩
 obtain ⟨y19,q19⟩:∃ y,c.eval (.tmp 19)=y:=⟨_,rfl⟩
 obtain ⟨y20,q20⟩:∃ y,c.eval (.tmp 20)=y:=⟨_,rfl⟩
 simp only [List.foldl_cons,List.foldl_nil,q4,q5,q6,q7,q8,q9,q10,q11,q12,q13,q14,q15,q16,q17,q18,q19,q20]
 clear q4 q5 q6 q7 q8 q9 q10 q11 q12 q13 q14 q15 q16 q17 q18 q19 q20
 simp only [List.setIfInBounds_toArray,List.set_cons_succ,List.set_cons_zero]
 clear hS e7 e9 e20 hup
 obtain ⟨o1,o2,o3,o4,o5,n1,n2,n3,n4,n5,n6,n7,n8,n9,n10⟩:=HOK.out
 have HG2:=Zb (HG1.out.below hB2)
 have HG3:Hid (GS W3 p nn nr N R (F++[(f,.slice ua 1 uc)]) T) :=
  ⟨HG2.out.obj.keep (ho3 _ n3),HG2.out.n.block (ho3 _ n6),HG2.out.r.block (ho3 _ n8),hmi,HG2.out.t.block (ho3 _ (Ne.symm n10))⟩
 have HR3:Hid (Rec W3 w.heap.size #[.int .i64 id,.int .i64 f,.int .i64 t,.string s,.slice pa pn pc] 49):=(HR1.out.below hB2 hs1).keep (ho3 _ (by omega))
 have HO3:Hid (W3.ownsRow W1.heap.size 2 1 (.slice ua 1 uc) 1 [.int .i64 id]):=Zt hown fun g hg _=>ho3 g (by omega)
 have hs3':W1.heap.size≤W3.heap.size:=by rw [hs3];exact hB2.size
 have HK3:Hid (∀ i,i<w.heap.size→i≠p.f→W3.heap[i]?=w.heap[i]?):=fun i hi h1=>(ho3 i h1).trans ((hB2.block i (by omega)).trans (HB1.out.block i hi))
 have HB3:Hid (Below B w W3):=(HB1.out.mono hB).trans ((hB2.mono (by omega)).trans (hb3.mono o4))
 clear hmi ho3 hb3 hs3 hB2 HG2 hown HG1 HB1 HR1
 go_upto_region 2 with fail
 show (Code.region 2 Zl9 true).wp _ _ _ _
 refine Zt9 p id t w.heap.size W3.heap.size _ _ _ rfl ⟨rfl,rfl⟩ ?_ ?_
 ·intro W hW
  exact ⟨(hW.cell (p:=⟨p.g,5,none⟩) HG3.out.obj.lt).trans HG3.out.c5,(hW.cell (p:=⟨w.heap.size,2,none⟩) HR3.out.lt).trans (HR3.out.cell 2 rfl),(hW.cell (p:=⟨w.heap.size,0,none⟩) HR3.out.lt).trans (HR3.out.cell 0 rfl),(Zir Tryz.underlying72' Zkk (HG3.out.t.below hW (Nat.le_refl _)) t ht HT.out).2,hW.size⟩
 rintro c W4 hS hB4 e7 e9 ⟨hown,va,vc,e20⟩
 obtain ⟨W5,hup,hmi,hs5,ho5,hb5⟩:=Zf6 Tryz.underlying72' (HG3.out.t.below hB4 (Nat.le_refl _)) t (.slice va 1 vc) ht HT.out
 refine ⟨W5,?_,?_⟩
 ·generalize c.eval=ρ at *
  clear hS hmi ho5 hb5 hown
  go_simp
 rw [e20] at hown
 rw [Zao hS [21,22,23,24,25,26,27,28,29,30,31,32,33,34,35,36,37] (by kernel_rfl)]
 obtain ⟨y21,q21⟩:∃ y,c.eval (.tmp 21)=y:=⟨_,rfl⟩
 obtain ⟨y22,q22⟩:∃ y,c.eval (.tmp 22)=y:=⟨_,rfl⟩
 obtain ⟨y23,q23⟩:∃ y,c.eval (.tmp 23)=y:=⟨_,rfl⟩
 obtain ⟨y24,q24⟩:∃ y,c.eval (.tmp 24)=y:=⟨_,rfl⟩
 obtain ⟨y25,q25⟩:∃ y,c.eval (.tmp 25)=y:=⟨_,rfl⟩
 obtain ⟨y26,q26⟩:∃ y,c.eval (.tmp 26)=y:=⟨_,rfl⟩
 obtain ⟨y27,q27⟩:∃ y,c.eval (.tmp 27)=y:=⟨_,rfl⟩
 obtain ⟨y28,q28⟩:∃ y,c.eval (.tmp 28)=y:=⟨_,rfl⟩
 obtain ⟨y29,q29⟩:∃ y,c.eval (.tmp 29)=y:=⟨_,rfl⟩
 obtain ⟨y30,q30⟩:∃ y,c.eval (.tmp 30)=y:=⟨_,rfl⟩
 obtain ⟨y31,q31⟩:∃ y,c.eval (.tmp 31)=y:=⟨_,rfl⟩
 obtain ⟨y32,q32⟩:∃ y,c.eval (.tmp 32)=y:=⟨_,rfl⟩
 obtain ⟨y33,q33⟩:∃ y,c.eval (.tmp 33)=y:=⟨_,rfl⟩
 obtain ⟨y34,q34⟩:∃ y,c.eval (.tmp 34)=y:=⟨_,rfl⟩
 obtain ⟨y35,q35⟩:∃ y,c.eval (.tmp 35)=y:=⟨_,rfl⟩
 obtain ⟨y36,q36⟩:∃ y,c.eval (.tmp 36)=y:=⟨_,rfl⟩
 obtain ⟨y37,q37⟩:∃ y,c.eval (.tmp 37)=y:=⟨_,rfl⟩
 simp only [List.foldl_cons,List.foldl_nil,q21,q22,q23,q24,q25,q26,q27,q28,q29,q30,q31,q32,q33,q34,q35,q36,q37]
 clear q21 q22 q23 q24 q25 q26 q27 q28 q29 q30 q31 q32 q33 q34 q35 q36 q37
 simp only [List.setIfInBounds_toArray,List.set_cons_succ,List.set_cons_zero]
 clear hS e7 e9 e20 hup
 have HG4:=Zb (HG3.out.below hB4)
 have HG5:Hid (GS W5 p nn nr N R (F++[(f,.slice ua 1 uc)]) (T++[(t,.slice va 1 vc)])) :=
  ⟨HG4.out.obj.keep (ho5 _ n4),HG4.out.n.block (ho5 _ n7),HG4.out.r.block (ho5 _ n9),HG4.out.f.block (ho5 _ n10),hmi⟩
 have HO5:Hid (W5.ownsRow w.heap.size 2 1 (.slice ua 1 uc) 1 [.int .i64 id]):=Zg5 (Zt HO3.out fun g hg hl=>(ho5 g (by omega)).trans (hB4.block g hl)) (by omega)
 have HP5:Hid (W5.ownsRow W3.heap.size 2 1 (.slice va 1 vc) 1 [.int .i64 id]):=Zt hown fun g hg _=>ho5 g (by omega)
 have HQ:Hid (∀ q,(Value.slice ua 1 uc).ownBlock=some q→q<W3.heap.size):=fun q hq=>(HO3.out.lt q hq).2
 have HB5:Hid (Below B w W5):=HB3.out.trans ((hB4.mono (by omega)).trans (hb5.mono o5))
 have HK5:Hid (∀ i,i<w.heap.size→i≠p.f→i≠p.t→W5.heap[i]?=w.heap[i]?):=fun i hi h1 h2=>(ho5 i h2).trans ((hB4.block i (by omega)).trans (HK3.out i hi h1))
 clear hmi ho5 hb5 hs5 hB4 HG4 hown
 go_wp2_with fail
 exact bodyPost_end (v:=.tuple #[]) (by simp [results,Tryz.results40,go_sem]) rfl ⟨rfl,_,_,HG5.out,HO5.out,⟨W3.heap.size,by omega,HP5.out,HQ.out⟩,HB5.out,HK5.out⟩
theorem Zem {w:World} {p:GP} {nn nr:Int} {N R F T:List (Int × Value)} (h:GS w p nn nr N R F T) (hN:Zg1 N) (hR:Zg1 R) (hn:∀ q ∈ N,Zgk q.2) (hr:∀ q ∈ R,Zrp q.2) (k:Int) (hk:I64 k) (b:Bool) (hb:Zdy k N=b) :
  Calls Tryz.prog 91 #[.pointer (some ⟨p.g,0,none⟩),.bool false,.int .i64 k] w fun e w'=>e=.returned (.bool b)∧Below w.heap.size w w':=by
 have:=Zuf h hN hR hn hr false k hk
 simpa [hb,GP.val] using this
theorem Znm {w:World} {p:GP} {nn nr:Int} {N R F T:List (Int × Value)} (h:GS w p nn nr N R F T) (hN:Zg1 N) (hR:Zg1 R) (hn:∀ q ∈ N,Zgk q.2) (hr:∀ q ∈ R,Zrp q.2) (f t:Int) (s:ByteArray) (pv:Value) (hpv:∃ a n c,pv=.slice a n c) (hf:I64 f) (ht:I64 t) (hf1:Zdy f N=true) (ht1:Zdy t N=false)
  (ha:∀ W,Below w.heap.size w W→Calls Tryz.prog 90 #[.string s] W fun e w'=>e=.returned (.bool true)∧Below W.heap.size W w')
  (hs:∀ W,Below w.heap.size w W→Calls Tryz.prog 86 #[pv] W fun e w'=>e=.returned (.bool true)∧Below W.heap.size W w') :
  Calls Tryz.prog 32 #[p.val,.int .i64 f,.int .i64 t,.string s,pv] w fun e w'=>e=.returned (.tuple #[.int .i64 0,.int .i64 5])∧Below w.heap.size w w':=by
 obtain ⟨qa,qn,qc,rfl⟩:=hpv
 have HH1:Hid (∀ W,Below w.heap.size w W→Calls Tryz.prog 91 #[.pointer (some ⟨p.g,0,none⟩),.bool false,.int .i64 f] W fun e w'=>e=.returned (.bool true)∧Below W.heap.size W w'):=fun W hW=>Zem (h.below hW) hN hR hn hr f hf true hf1
 have HH2:Hid (∀ W,Below w.heap.size w W→Calls Tryz.prog 91 #[.pointer (some ⟨p.g,0,none⟩),.bool false,.int .i64 t] W fun e w'=>e=.returned (.bool false)∧Below W.heap.size W w'):=fun W hW=>Zem (h.below hW) hN hR hn hr t ht false ht1
 have HTh:=Zb (Zcq h)
 have HA:=Zb ha
 have HS:=Zb hs
 clear h hN hR hn hr ha hs hf ht hf1 ht1
 unfold GP.val at HTh ⊢
 go_enter Tryz.func32,Tryz.ntmps32
 go_wp2_with fail
 refine HTh.out.mono ?_
 rintro e w1 ⟨rfl,hw1⟩
 rw [hw1]
 clear hw1 HTh
 go_wp2_with fail
 refine (HA.out w (Below.refl _ _)).mono ?_
 rintro e w2 ⟨rfl,hb2⟩
 have HB2:=Zb hb2
 clear hb2 HA
 go_wp2_with fail
 refine (HS.out w2 HB2.out).mono ?_
 rintro e w3 ⟨rfl,hb3⟩
 have HB3:=Zb (Za HB2.out hb3)
 clear hb3 HS HB2
 go_wp2_with fail
 refine (HH1.out w3 HB3.out).mono ?_
 rintro e w4 ⟨rfl,hb4⟩
 have HB4:=Zb (Za HB3.out hb4)
 clear hb4 HH1 HB3
 go_wp2_with fail
 refine (HH2.out w4 HB4.out).mono ?_
 rintro e w5 ⟨rfl,hb5⟩
 have HB5:=Zb (Za HB4.out hb5)
 clear hb5 HH2 HB4
 go_wp2_with fail
 go_ret2
 exact ⟨rfl,HB5.out⟩
theorem Zt3 {w:World} {p:GP} {nn nr:Int} {N R F T:List (Int × Value)} (h:GS w p nn nr N R F T) (B:Nat) (hok:p.Ok B) (hB:B≤w.heap.size) (hN:Zg1 N) (hR:Zg1 R) (hn:∀ q ∈ N,Zgk q.2) (hr:∀ q ∈ R,Zrp q.2) (f t:Int) (s:ByteArray) (pv:Value) (K:World→Value→Prop) (hpv:∃ a n c,pv=.slice a n c) (hf:I64 f) (ht:I64 t) (hf1:Zdy f N=true) (ht1:Zdy t N=true)
  (ha:∀ W,Below w.heap.size w W→Calls Tryz.prog 90 #[.string s] W fun e w'=>e=.returned (.bool true)∧Below W.heap.size W w')
  (hs:∀ W,Below w.heap.size w W→Calls Tryz.prog 86 #[pv] W fun e w'=>e=.returned (.bool true)∧Below W.heap.size W w')
  (hk:∀ W,Below w.heap.size w W→Calls Tryz.prog 88 #[pv] W fun e w'=>∃ a n c,e=.returned (.slice a n c)∧K w' (.slice a n c)∧Below W.heap.size W w')
  (hnr:I64 nr) (hnr1:nr<4611686018427387904) (hnr0:0≤nr) (hnew:∀ q ∈ R,q.1≠nr) (hF:∀ q ∈ F,q.1≠f) (hT:∀ q ∈ T,q.1≠t) (hsz:N.length+R.length<65536) :
  Calls Tryz.prog 32 #[p.val,.int .i64 f,.int .i64 t,.string s,pv] w fun e w'=>e=.returned (.tuple #[.int .i64 nr,.int .i64 0])∧∃ pa pn pc fv tv,GS w' p nn (nr+1) N (R++[(nr,.agg #[.int .i64 nr,.int .i64 f,.int .i64 t,.string s,.slice pa pn pc])]) (F++[(f,fv)]) (T++[(t,tv)])∧w'.ownsRow w.heap.size 2 1 fv 1 [.int .i64 nr]∧(∃ b,w.heap.size≤b∧w'.ownsRow b 2 1 tv 1 [.int .i64 nr]∧∀ q,fv.ownBlock=some q→q<b)∧Below B w w':=by
 obtain ⟨qa,qn,qc,rfl⟩:=hpv
 have HG:=Zb h
 have HH1:Hid (∀ W,Below w.heap.size w W→Calls Tryz.prog 91 #[.pointer (some ⟨p.g,0,none⟩),.bool false,.int .i64 f] W fun e w'=>e=.returned (.bool true)∧Below W.heap.size W w'):=fun W hW=>Zem (h.below hW) hN hR hn hr f hf true hf1
 have HH2:Hid (∀ W,Below w.heap.size w W→Calls Tryz.prog 91 #[.pointer (some ⟨p.g,0,none⟩),.bool false,.int .i64 t] W fun e w'=>e=.returned (.bool true)∧Below W.heap.size W w'):=fun W hW=>Zem (h.below hW) hN hR hn hr t ht true ht1
 have HTh:=Zb (Zcq h)
 have HA:=Zb ha
 have HS:=Zb hs
 have HK:=Zb hk
 have HOK:=Zb hok
 have HNEW:=Zb hnew
 have HF:=Zb hF
 have HT:=Zb hT
 have hold:p.g<w.heap.size∧p.n<w.heap.size∧p.r<w.heap.size∧p.f<w.heap.size∧p.t<w.heap.size:=⟨h.obj.lt,h.n.lt,h.r.lt,h.f.lt,h.t.lt⟩
 obtain ⟨u1,u2,u3,u4,u5⟩:=hold
 clear h hN hR hn hr ha hs hf1 ht1 hk hok hnew hF hT
 unfold GP.val at HTh ⊢
 go_enter Tryz.func32,Tryz.ntmps32
 go_wp2_with fail
 refine HTh.out.mono ?_
 rintro e w1 ⟨rfl,hw1⟩
 rw [hw1]
 clear hw1 HTh
 go_wp2_with fail
 refine (HA.out w (Below.refl _ _)).mono ?_
 rintro e w2 ⟨rfl,hb2⟩
 have HB2:=Zb hb2
 clear hb2 HA
 go_wp2_with fail
 refine (HS.out w2 HB2.out).mono ?_
 rintro e w3 ⟨rfl,hb3⟩
 have HB3:=Zb (Za HB2.out hb3)
 clear hb3 HS HB2
 go_wp2_with fail
 refine (HH1.out w3 HB3.out).mono ?_
 rintro e w4 ⟨rfl,hb4⟩
 have HB4:=Zb (Za HB3.out hb4)
 clear hb4 HH1 HB3
 go_wp2_with fail
 refine (HH2.out w4 HB4.out).mono ?_
 rintro e w5 ⟨rfl,hb5⟩
 have HB5:=Zb (Za HB4.out hb5)
 clear hb5 HH2 HB4
 have HG5:=Zb (HG.out.below HB5.out)
 have HFu:=Zb (Zos HG5.out hsz nr hnr1)
 unfold GP.val at HFu
 have c3:=HG5.out.c3
 go_wp2_with fail
 refine HFu.out.mono ?_
 rintro e w6 ⟨rfl,hb6⟩
 have HB6:=Zb (Za HB5.out hb6)
 have HG6:=Zb (HG.out.below HB6.out)
 clear hb6 c3 HFu HG5 HB5
 go_upto_region 9 with fail
 show (Code.region 9 Zi3 true).wp _ _ _ _
 refine Zt5 p nr f t s (.slice qa qn qc) w6.heap.size K _ _ _ rfl ⟨rfl,rfl,rfl,rfl,rfl⟩ ?_ ?_
 ·intro W hW
  exact ⟨(hW.cell (p:=⟨p.g,3,none⟩) HG6.out.obj.lt).trans HG6.out.c3,hW.size,HK.out W (Za HB6.out hW)⟩
 rintro c W7 hS hB7 ⟨pa,pn,pc,e55,_⟩ ⟨X,e12,hX,hr7⟩
 obtain ⟨W8,hrun,hput⟩:=Zze c.eval X W7 _ _ _ _ _ nr f t s pa pn pc hr7 e12 e55
 refine ⟨W8,hrun,?_⟩
 clear hrun
 rw [Zao hS [45,46,47,48,49,50,51,52,53,54,55,12] (by kernel_rfl)]
 obtain ⟨y45,q45⟩:∃ y,c.eval (.tmp 45)=y:=⟨_,rfl⟩
 obtain ⟨y46,q46⟩:∃ y,c.eval (.tmp 46)=y:=⟨_,rfl⟩
 obtain ⟨y47,q47⟩:∃ y,c.eval (.tmp 47)=y:=⟨_,rfl⟩
 obtain ⟨y48,q48⟩:∃ y,c.eval (.tmp 48)=y:=⟨_,rfl⟩
 obtain ⟨y49,q49⟩:∃ y,c.eval (.tmp 49)=y:=⟨_,rfl⟩
 obtain ⟨y50,q50⟩:∃ y,c.eval (.tmp 50)=y:=⟨_,rfl⟩
 obtain ⟨y51,q51⟩:∃ y,c.eval (.tmp 51)=y:=⟨_,rfl⟩
 obtain ⟨y52,q52⟩:∃ y,c.eval (.tmp 52)=y:=⟨_,rfl⟩
 obtain ⟨y53,q53⟩:∃ y,c.eval (.tmp 53)=y:=⟨_,rfl⟩
 obtain ⟨y54,q54⟩:∃ y,c.eval (.tmp 54)=y:=⟨_,rfl⟩
 obtain ⟨y55,q55⟩:∃ y,c.eval (.tmp 55)=y:=⟨_,rfl⟩
 obtain ⟨y12,q12⟩:∃ y,c.eval (.tmp 12)=y:=⟨_,rfl⟩
 simp only [List.foldl_cons,List.foldl_nil,q45,q46,q47,q48,q49,q50,q51,q52,q53,q54,q55,q12]
 rw [e12] at q12
 rw [e55] at q55
 subst q12 q55
 clear q45 q46 q47 q48 q49 q50 q51 q52 q53 q54
 simp only [List.setIfInBounds_toArray,List.set_cons_succ,List.set_cons_zero]
 clear e12 e55 hS
 have HB8:Hid (Below w.heap.size w W8):=(HB6.out.trans (hB7.mono HB6.out.size)).trans (hput.below.mono (Nat.le_trans HB6.out.size hX))
 have HG8:Hid (GS W8 p nn nr N R F T):=HG.out.below HB8.out
 have HR8:=Zb hput.r
 have hX0:w.heap.size≤X:=Nat.le_trans HB6.out.size hX
 clear hput hr7 hB7 hX HB6 HG6 HK
 go_upto_region 10 with fail
 show (Code.region 10 Zkm true).wp _ _ _ _
 refine Zq4 p nr f t s X pa pn pc _ _ _ rfl ⟨rfl,rfl⟩ ?_ ?_
 ·intro W hW
  exact ⟨(hW.cell (p:=⟨p.g,1,none⟩) HG8.out.obj.lt).trans HG8.out.c1,(hW.cell (p:=⟨X,0,none⟩) HR8.out.lt).trans (HR8.out.cell 0 rfl),(hW.cell (p:=⟨X,1,none⟩) HR8.out.lt).trans (HR8.out.cell 1 rfl),(hW.cell (p:=⟨X,2,none⟩) HR8.out.lt).trans (HR8.out.cell 2 rfl),(hW.cell (p:=⟨X,3,none⟩) HR8.out.lt).trans (HR8.out.cell 3 rfl),(hW.cell (p:=⟨X,4,none⟩) HR8.out.lt).trans (HR8.out.cell 4 rfl)⟩
 intro c W9 hS hB9 e60 e62 e63
 obtain ⟨W10,hup,hmi,hs10,ho10,hb10⟩:=Zf6 Tryz.underlying69' (HG8.out.r.below hB9 (Nat.le_refl _)) nr (.agg #[.int .i64 nr,.int .i64 f,.int .i64 t,.string s,.slice pa pn pc]) hnr HNEW.out
 refine ⟨W10,?_,?_⟩
 ·generalize c.eval=ρ at *
  clear hS hmi ho10 hb10
  go_simp
 rw [Zao hS [56,57,58,59,60,61,62,63] (by kernel_rfl)]
 obtain ⟨y56,q56⟩:∃ y,c.eval (.tmp 56)=y:=⟨_,rfl⟩
 obtain ⟨y57,q57⟩:∃ y,c.eval (.tmp 57)=y:=⟨_,rfl⟩
 obtain ⟨y58,q58⟩:∃ y,c.eval (.tmp 58)=y:=⟨_,rfl⟩
 obtain ⟨y59,q59⟩:∃ y,c.eval (.tmp 59)=y:=⟨_,rfl⟩
 obtain ⟨y60,q60⟩:∃ y,c.eval (.tmp 60)=y:=⟨_,rfl⟩
 obtain ⟨y61,q61⟩:∃ y,c.eval (.tmp 61)=y:=⟨_,rfl⟩
 obtain ⟨y62,q62⟩:∃ y,c.eval (.tmp 62)=y:=⟨_,rfl⟩
 obtain ⟨y63,q63⟩:∃ y,c.eval (.tmp 63)=y:=⟨_,rfl⟩
 simp only [List.foldl_cons,List.foldl_nil,q56,q57,q58,q59,q60,q61,q62,q63]
 clear q56 q57 q58 q59 q60 q61 q62 q63
 simp only [List.setIfInBounds_toArray,List.set_cons_succ,List.set_cons_zero]
 clear hS e60 e62 e63 hup
 obtain ⟨o1,o2,o3,o4,o5,n1,n2,n3,n4,n5,n6,n7,n8,n9,n10⟩:=HOK.out
 have HG9:=Zb (HG8.out.below hB9)
 have HG10:Hid (GS W10 p nn nr N (R++[(nr,.agg #[.int .i64 nr,.int .i64 f,.int .i64 t,.string s,.slice pa pn pc])]) F T) :=
  ⟨HG9.out.obj.keep (ho10 _ n2),HG9.out.n.block (ho10 _ n5),hmi,HG9.out.f.block (ho10 _ (Ne.symm n8)),HG9.out.t.block (ho10 _ (Ne.symm n9))⟩
 have HX10:Hid (Rec W10 X #[.int .i64 nr,.int .i64 f,.int .i64 t,.string s,.slice pa pn pc] 49):=(HR8.out.below hB9 HR8.out.lt).keep (ho10 _ (by omega))
 have HB10:Hid (Below B w W10):=(HB8.out.mono hB).trans ((hB9.mono (by have:=HB8.out.size;omega)).trans (hb10.mono o3))
 have hz10:w.heap.size≤W10.heap.size:=by have:=HB10.out.size;omega
 clear hmi ho10 hb10 hs10 hB9 HG9 HG8 HR8 HB8
 have HAT:=Zb (Zq2 HG10.out B HOK.out (by omega) nr f t s pa pn pc hf ht HF.out HT.out)
 unfold GP.val at HAT
 have x0:=HX10.out.cell 0 rfl
 have x1:=HX10.out.cell 1 rfl
 have x2:=HX10.out.cell 2 rfl
 have x3:=HX10.out.cell 3 rfl
 have x4:=HX10.out.cell 4 rfl
 go_wp2_with fail
 refine HAT.out.mono ?_
 rintro e w11 ⟨rfl,fv,tv,hg11,hfr,⟨bb,hbb,htr,hfb⟩,hb11,hk11⟩
 have HX11:Hid (Rec w11 X #[.int .i64 nr,.int .i64 f,.int .i64 t,.string s,.slice pa pn pc] 49):=HX10.out.keep (hk11 _ HX10.out.lt (by omega) (by omega))
 have HG11:=Zb hg11
 have HFR:=Zb hfr
 have HTR:=Zb htr
 have HFB:=Zb hfb
 have HB11:=Zb (HB10.out.trans hb11)
 clear x0 x1 x2 x3 x4 HAT hg11 hfr htr hfb hb11 hk11 HX10 HB10 HG10
 have c3:=HG11.out.c3
 have z3:=HG11.out.obj.z 3
 have hwr:IntKind.i64.wrap (nr+1)=nr+1:=by rw [IntKind.wrap_i64];omega
 go_upto_region 13 with fail
 generalize hW12:World.setCell _ _ _=W12
 have HX12:Hid (Rec W12 X #[.int .i64 nr,.int .i64 f,.int .i64 t,.string s,.slice pa pn pc] 49):=by rw [← hW12];exact HX11.out.other (by omega)
 have HG12:Hid (GS W12 p nn (nr+1) N (R++[(nr,.agg #[.int .i64 nr,.int .i64 f,.int .i64 t,.string s,.slice pa pn pc])]) (F++[(f,fv)]) (T++[(t,tv)])):=by
  rw [← hW12]
  refine ⟨?_,HG11.out.n.block (Below.heap_setCell _ _ _ _ (Ne.symm n1)),HG11.out.r.block (Below.heap_setCell _ _ _ _ (Ne.symm n2)),HG11.out.f.block (Below.heap_setCell _ _ _ _ (Ne.symm n3)),HG11.out.t.block (Below.heap_setCell _ _ _ _ (Ne.symm n4))⟩
  have:=HG11.out.obj.set 3 (.int .i64 (nr+1))
  simpa [GP.cells] using this
 have HB12:Hid (Below B w W12):=by rw [← hW12];exact HB11.out.setCell (p:=⟨p.g,3,none⟩) o1 _
 have HFR12:Hid (W12.ownsRow w.heap.size 2 1 fv 1 [.int .i64 nr]):=by
  rw [← hW12]
  exact Zg5 (Zt HFR.out fun i hi _=>Below.heap_setCell _ _ _ _ (by show i≠p.g;omega)) hz10
 have HTR12:Hid (W12.ownsRow bb 2 1 tv 1 [.int .i64 nr]):=by
  rw [← hW12]
  exact Zt HTR.out fun i hi _=>Below.heap_setCell _ _ _ _ (by show i≠p.g;omega)
 clear hW12 c3 z3
 have x0:=HX12.out.cell 0 rfl
 go_wp2_with fail
 go_ret2
 exact ⟨rfl,pa,pn,pc,fv,tv,HG12.out,HFR12.out,⟨bb,by omega,HTR12.out,HFB.out⟩,HB12.out⟩
end
section
open Go.RowKit
set_option linter.all false
variable {P:Program} {ops:Array Oper} {Q:Exit→Act→World→Prop}
theorem Znr {base a:Act} (h:Zae ops base a) {k:Nat} (hk:k<ops.size) (v:Value):Zae ops base (a.put (Zu ops k) v):=by
 obtain ⟨h1,h2,h3⟩:=h
 cases hs:Zu ops k with
 | none=>exact ⟨by simpa [Act.put] using h1,by simpa [Act.put] using h2,fun t ht=>by simpa [Act.put] using h3 t ht⟩
 | some d=>exact ⟨by simpa [Act.put] using h1,by simpa [Act.put] using h2,fun t ht=>by
   have hne:d≠t:=fun e=>ht k hk (by rw [hs,e])
   simpa [Act.put,Array.getElem?_setIfInBounds_ne hne] using h3 t ht⟩
theorem Zie {A:Nat→List Nat} {F:Nat→Value→World→Prop} {base:Act} {w0:World} {id:Nat} (k:Nat) (hk:k+1=ops.size)
  (hm:P.follows .mixedOrders=true) (hok:Zf1 ops base.tmps.size A=true) (hdst:∀ i,i<k→∃ d,Zu ops i=some d) (hAk:∀ i,i<k→i ∈ A k)
  (hmono:∀ i v w w',F i v w→Below w.heap.size w w'→F i v w')
  (hop:∀ i,i<k→∀ a w,Zae ops base a→Below w0.heap.size w0 w→(∀ j ∈ A i,F j (val ops a j) w)→Zak P ops Q F i a w)
  (hlast:∀ a w,Zae ops base a→Below w0.heap.size w0 w→(∀ i,i<k→F i (val ops a i) w)→wpOp P ops Q k (fun a' w'=>(∃ v,a'=a.put (Zu ops k) v)∧Q .normal a' w') a w) :
  (Code.region id ops true).wp P Q base w0:=by
 refine Zfg (A:=A) (G:=fun _ _=>True) (S:=fun l vs w=>(l k=false→Below w0.heap.size w0 w∧∀ i,l i=true→i<ops.size→F i (vs i) w)∧(l k=true→∀ b,Zae ops base b→(∀ i,i<ops.size→val ops b i=vs i)→Q .normal b w)) hm hok ⟨fun _=>⟨(Below.refl _ _).drew,fun i h=>(by cases h)⟩,fun h=>(by cases h)⟩ ?_ ?_
 ·rintro i hi l a w hS hli hcl hA ⟨hF0,hK⟩
  have hlk:l k=false:=by
   cases h:l k with
   | false=>rfl
   | true =>
    by_cases e:i=k
    ·rw [e,h] at hli;cases hli
    ·have:=hcl k h i (hAk i (by omega));rw [hli] at this;cases this
  obtain ⟨hB,hF⟩:=hF0 hlk
  by_cases e:i=k
  ·subst e
   refine wpOp_mono ?_ (hlast a w hS hB fun j hj=>hF j (hA j (hAk j hj)).1 (by omega))
   rintro a' w' ⟨⟨v,rfl⟩,hq⟩
   refine ⟨v,rfl,trivial,fun h=>?_,fun _ b hSb hv=>?_⟩
   ·rw [Zbu] at h;cases h
   ·have:b=a.put (Zu ops i) v:=Zoe hSb (Znr hS hi v) fun j hj=>by
     rw [hv j hj]
     by_cases ej:j=i
     ·subst ej;rw [Zbu]
     ·rw [Zai _ _ ej]
      unfold val
      cases hsj:Zu ops j with
      | none=>rfl
      | some d =>
       cases hsi:Zu ops i with
       | none=>simp [Act.put]
       | some d' =>
        have hne:d'≠d:=fun e=>by
         obtain ⟨o,_,hs,_,_,hb,_⟩:=Zds hok i hi
         obtain ⟨o',_,hs',_,_,hb',_⟩:=Zds hok j hj
         rcases Nat.lt_or_gt_of_ne ej with h | h
         ·exact hb j d' h (hs▸hsi) (by rw [hsj,e])
         ·exact hb' i d h (hs'▸hsj) (by rw [hsi,e])
        simp [Act.put,Act.eval,Array.getD_eq_getD_getElem?,Array.getElem?_setIfInBounds_ne hne]
    rw [this];exact hq
  ·have hik:i<k:=by omega
   have hlt:∀ j ∈ A i,j<ops.size:=by
    have key:∀ n i,i<n→i<ops.size→∀ j ∈ A i,j<ops.size:=by
     intro n
     induction n with
     | zero=>intro i h;omega
     | succ n ih =>
      intro i h hi j hj
      obtain ⟨o,_,_,_,hlt,_,hAA⟩:=Zds hok i hi
      obtain ⟨e,he,hb,hor⟩:=hAA j hj
      have h1:=hlt e he hb
      rcases hor with rfl | h2
      ·omega
      ·exact ih e.on (by omega) (by omega) j h2
    exact key (i+1) i (by omega) hi
   refine wpOp_mono ?_ (hop i hik a w hS hB (fun j hj=>hF j (hA j hj).1 (hlt j hj)))
   rintro a' w' ⟨v,rfl,hFi,hb⟩
   obtain ⟨d,hd⟩:=hdst i hik
   obtain ⟨o,ho,hs,hdn,_,_,_⟩:=Zds hok i hi
   have hsz:d<a.tmps.size:=by rw [hS.2.1];exact hdn d (hs▸hd)
   have hv:=Zkt ho (hs▸hd:o.dst=some d) hsz v
   refine ⟨v,rfl,trivial,fun h=>⟨hB.trans (hb.mono hB.size),fun j hj hjs=>?_⟩,fun h=>?_⟩
   ·by_cases ej:j=i
    ·subst ej;rw [Zbu,hv];exact hFi
    ·rw [Zai _ _ ej] at hj ⊢
     exact hmono _ _ _ _ (hF j hj hjs) hb
   ·rw [Zai _ _ (Ne.symm e),hlk] at h;cases h
 ·rintro l a w hS hall ⟨hF,hK⟩
  exact hK (hall k (by omega)).1 a hS fun _ _=>rfl
theorem Zmd {k:Nat} {o:Oper} {a:Act} {w:World} {f:FuncId} {args:Array Value} (ho:ops[k]?=some o) (hw:Region.wanted o (yielded ops a.tmps)=true)
  (hr:(execOp a.eval o).run P w=.ok (.enter f args) w) (hc:Calls P f args w fun e w'=>∃ v,e=.returned v∧Q .normal (a.put (Zu ops k) v) w'):wpOp P ops Q k (fun a' w'=>(∃ v,a'=a.put (Zu ops k) v)∧Q .normal a' w') a w:=by
 unfold wpOp
 simp only [ho,hw,if_true]
 refine .inl ?_
 unfold Oper.wp
 rw [hr,Oper.upon_enter]
 refine hc.mono ?_
 rintro e w' ⟨v,rfl,hq⟩
 have hs:Zu ops k=o.dst:=by simp [Zu,ho]
 rw [hs] at hq ⊢
 exact ⟨⟨v,rfl⟩,hq⟩
end
section
open Go.Shelf
def Tryz.laysDel_ren  : Go.Shelf.Ren:=⟨fun | 45=>180 | n=>n,fun | 22=>100 | 23=>2 | 3=>3 | 4=>4 | 0=>0 | n=>n,fun | n=>n⟩
theorem Tryz.laysDel  : Go.Proofs.SlLaysN.n45 Tryz.prog Tryz.laysDel_ren:={
 mixed:=by kernel_rfl
 f45:=⟨Tryz.f180.name,by decide,Tryz.func180.trans (congrArg some (by kernel_rfl))⟩
 t0:=Tryz.underlying0
 a0:=Tryz.isAgg0
 z0:=Tryz.sizeOf0
 v0:=Tryz.zeroValue0
 t3:=Tryz.underlying3
 a3:=Tryz.isAgg3
 z3:=Tryz.sizeOf3
 v3:=Tryz.zeroValue3
 t4:=Tryz.underlying4
 a4:=Tryz.isAgg4
 z4:=Tryz.sizeOf4
 v4:=Tryz.zeroValue4
 t22:=Tryz.underlying100
 a22:=Tryz.isAgg100
 z22:=Tryz.sizeOf100
 v22:=Tryz.zeroValue100
 t23:=Tryz.underlying2
 a23:=Tryz.isAgg2
 z23:=Tryz.sizeOf2
 v23:=Tryz.zeroValue2
 i23:=by kernel_rfl }
def Tryz.laysFind_ren  : Go.Shelf.Ren:=⟨fun | 49=>179 | 59=>199 | 60=>220 | 68=>235 | n=>n,fun | 22=>100 | 23=>2 | 3=>3 | 4=>4 | 51=>200 | 0=>0 | n=>n,fun | n=>n⟩
theorem Tryz.laysFind  : Go.Proofs.SlLaysN.n49 Tryz.prog Tryz.laysFind_ren:={
 mixed:=by kernel_rfl
 f49:=⟨Tryz.f179.name,by decide,Tryz.func179.trans (congrArg some (by kernel_rfl))⟩
 f59:=⟨Tryz.f199.name,by decide,Tryz.func199.trans (congrArg some (by kernel_rfl))⟩
 f60:=⟨Tryz.f220.name,by decide,Tryz.func220.trans (congrArg some (by kernel_rfl))⟩
 f68:=⟨Tryz.f235.name,by decide,Tryz.func235.trans (congrArg some (by kernel_rfl))⟩
 t0:=Tryz.underlying0
 a0:=Tryz.isAgg0
 z0:=Tryz.sizeOf0
 v0:=Tryz.zeroValue0
 t3:=Tryz.underlying3
 a3:=Tryz.isAgg3
 z3:=Tryz.sizeOf3
 v3:=Tryz.zeroValue3
 t4:=Tryz.underlying4
 a4:=Tryz.isAgg4
 z4:=Tryz.sizeOf4
 v4:=Tryz.zeroValue4
 t22:=Tryz.underlying100
 a22:=Tryz.isAgg100
 z22:=Tryz.sizeOf100
 v22:=Tryz.zeroValue100
 t23:=Tryz.underlying2
 a23:=Tryz.isAgg2
 z23:=Tryz.sizeOf2
 v23:=Tryz.zeroValue2
 t51:=Tryz.underlying200
 a51:=Tryz.isAgg200
 z51:=Tryz.sizeOf200
 v51:=Tryz.zeroValue200 }
open Go.Sort Go.RowKit in
theorem Tryz.slices_Delete_int (blk off cap i j:Nat) (zs:List Int) (w:World) (hH:Holds (Value.int .i64) w blk off zs.toArray) (hcap:zs.length≤cap) (hm:cap≤9223372036854775807) (hij:i≤j) (hj:j≤zs.length) :
  Calls Tryz.prog 180 #[.slice (some ⟨blk,off,none⟩) zs.length cap,.int .i64 i,.int .i64 j] w fun e w'=>e=.returned (.slice (some ⟨blk,off,none⟩) (zs.length - (j - i)) cap)∧∃ q,w'=putRow (Value.int .i64) (Sort.ahead w q) blk off (zs.take i++zs.drop j++List.replicate (j - i) 0).toArray:=AnyG.slices_Delete_int Tryz.laysDel blk off cap i j zs w hH hcap hm hij hj
open Go.Sort Go.RowKit in
theorem Tryz.slices_BinarySearch_int (b off n c:Nat) (zs:List Int) (x:Int) (w:World) (hz:n≤zs.length) (hbig:n<4611686018427387904) (hc:∀ j,j<zs.length→w.cell? ⟨b,off+j,none⟩=some (.int .i64 (zs.getD j 0))) (hs:(zs.take n).Pairwise (·≤·)) :
  Calls Tryz.prog 179 #[.slice (some ⟨b,off,none⟩) n c,.int .i64 x] w fun e w'=>e=.returned (.tuple #[.int .i64 ((zs.take n).countP (·<x):Nat),.bool ((zs.take n).contains x)])∧∃ q,w'=w.drewN q:=AnyG.slices_BinarySearch_int Tryz.laysFind b off n c zs x w hz hbig hc hs
end
section
open Go.RowKit Go.Shelf Go.WideShapes
set_option maxHeartbeats 8000000
set_option maxRecDepth 100000
set_option linter.all false
attribute [local go_sem] Oper.semAt_some
noncomputable def Zv6  : Array Oper:=Jg Tryz.f92 1
def Jez  : List Sig:=[⟨4,.move (.tmp 0),31,none⟩,⟨5,.nilCheck (.tmp 4),0,none⟩,⟨6,.fieldAddr 74 (.tmp 5) 1,0,none⟩,⟨7,.load 72 (.tmp 6),72,none⟩,⟨8,.fieldAddr 49 (.tmp 3) 1,0,none⟩,⟨9,.load 2 (.tmp 8),2,none⟩,⟨10,.fieldAddr 49 (.tmp 3) 0,0,none⟩,⟨11,.load 2 (.tmp 10),2,none⟩]
theorem Jbe  : (Jq Zv6).take Jez.length=Jez.map some:=by kernel_rfl
def Zom (i:Nat):List Nat:=nth [] [[],[0],[0,1],[0,1,2],[],[4],[],[6],[0,1,2,3,4,5,6,7]] i
def Zcz (p:GP) (id k:Int) (X:Nat):List (Value→World→Prop) :=
 [eqv (.pointer (some ⟨p.g,0,none⟩)),eqv (.pointer (some ⟨p.g,0,none⟩)),eqv (.pointer (some ⟨p.g,4,none⟩)),eqv (.map (some p.f)),eqv (.pointer (some ⟨X,1,none⟩)),eqv (.int .i64 k),eqv (.pointer (some ⟨X,0,none⟩)),eqv (.int .i64 id)]
structure Zm6 (p:GP) (id k:Int) (X:Nat) (c:Act):Prop where
 t0:c.eval (.tmp 0)=.pointer (some ⟨p.g,0,none⟩)
 t3:c.eval (.tmp 3)=.pointer (some ⟨X,0,none⟩)
structure Zj0 (p:GP) (id k:Int) (X:Nat) (w:World):Prop where
 cm:w.cell? ⟨p.g,4,none⟩=some (.map (some p.f))
 xk:w.cell? ⟨X,1,none⟩=some (.int .i64 k)
 xi:w.cell? ⟨X,0,none⟩=some (.int .i64 id)
theorem Zrx (p:GP) (id k:Int) (X:Nat):∀ pr ∈ Zcz p id k X,Zbv pr:=by
 unfold Zcz
 iterate 8 (first | refine List.forall_mem_cons.2 ⟨Jb _,?_⟩)
 exact List.forall_mem_nil _
theorem Jbf (p:GP) (id k:Int) (X:Nat) (Q:Exit→Act→World→Prop):∀ i,i<8→(fun i=>i ∉ ([]:List Nat)→∀ c w,Zm6 p id k X c→Zj0 p id k X w→(∀ q0 ∈ Zom i,Zf (Zcz p id k X) q0 (val Zv6 c q0) w)→Zak Tryz.prog Zv6 Q (Zf (Zcz p id k X)) i c w) i:=by
 iterate 8 (refine Zd ?_ (by
  intro hn c w hb hW hF
  first
  | exact absurd (by decide) hn
  | (have hEq:=Zag Jbe (by decide) hF
     refine Zar Jbe (by decide) rfl (fun _=>rfl) ?_
     obtain ⟨t0,t3⟩:=hb
     obtain ⟨cm,xk,xi⟩:=hW
     have ec:=evc c
     have ef:=evf c
     dsimp only [Zom,Jez,Zcz,nth,Zcp,Zbd,eqv] at hEq ⊢
     refine .inl fun pos af=>?_
     clear hF hn
     dsimp only [Sig.oper]
     generalize c.eval=ρ at *
     go_simp
     done)))
 exact Zj
theorem Jbg (p:GP) (id k:Int) (X:Nat) (Q:Exit→Act→World→Prop):∀ i,i<8→(fun i=>∀ c w,Zm6 p id k X c→Zj0 p id k X w→(∀ q0 ∈ Zom i,Zf (Zcz p id k X) q0 (val Zv6 c q0) w)→Zak Tryz.prog Zv6 Q (Zf (Zcz p id k X)) i c w) i:=by
 intro i hi
 exact Jbf p id k X Q i hi (by simp [*])
theorem Zry (p:GP) (id k:Int) (X:Nat) (Q:Exit→Act→World→Prop) (base:Act) (w0:World) (hsz:base.tmps.size=22) (hb:Zm6 p id k X base)
  (hW:∀ w,Below w0.heap.size w0 w→Zj0 p id k X w) (hL:∀ c w,Zae Zv6 base c→Below w0.heap.size w0 w→c.eval (.tmp 7)=.map (some p.f)→c.eval (.tmp 9)=.int .i64 k→c.eval (.tmp 11)=.int .i64 id→Calls Tryz.prog 141 #[.map (some p.f),.int .i64 k,.int .i64 id] w fun e w'=>∃ v,e=.returned v∧Q .normal (c.put (some 12) v) w'):(Code.region 1 Zv6 true).wp Tryz.prog Q base w0:=by
 have hall:(List.range 8).all (fun i=>(Zu Zv6 i).isSome)=true:=by kernel_rfl
 refine Zie (A:=Zom) (F:=Zf (Zcz p id k X)) 8 (by kernel_rfl) (by kernel_rfl) (by rw [hsz];kernel_rfl) ?_ (by decide) (fun i v w w'=>Jd (Zrx p id k X) i v w w') ?_ ?_
 ·exact fun i hi=>Option.isSome_iff_exists.1 (List.all_eq_true.1 hall i (List.mem_range.2 hi))
 ·intro i hi c w hS hB hF
  exact Jbg p id k X Q i hi c w ⟨(Zc hS (by kernel_rfl)).trans hb.t0,(Zc hS (by kernel_rfl)).trans hb.t3⟩ (hW w hB) hF
 ·intro c w hS hB hF
  have e7:c.eval (.tmp 7)=.map (some p.f):=Zi (by kernel_rfl) rfl (hF 3 (by omega))
  have e9:c.eval (.tmp 9)=.int .i64 k:=Zi (by kernel_rfl) rfl (hF 5 (by omega))
  have e11:c.eval (.tmp 11)=.int .i64 id:=Zi (by kernel_rfl) rfl (hF 7 (by omega))
  refine Zmd (o:={ dst:=some 12,op:=Op.call { callee:=Callee.value (Operand.func 141),args:=#[Operand.tmp 7,Operand.tmp 9,Operand.tmp 11],argTypes:=#[72,2,2] },type:=0,pos := "edit.go:131",after:=#[{ on:=3,ground:=Ground.data },{ on:=5,ground:=Ground.data },{ on:=7,ground:=Ground.data }],guard:=none }) (by kernel_rfl) (Zn rfl) (f:=141) (args:=#[.map (some p.f),.int .i64 k,.int .i64 id]) ?_ (hL c w hS hB e7 e9 e11)
  have ef:=evf c
  have ec:=evc c
  clear hF hS hL hb hW
  generalize c.eval=ρ at *
  go_simp
noncomputable def Zv7  : Array Oper:=Jg Tryz.f92 2
def Je0  : List Sig:=[⟨13,.move (.tmp 0),31,none⟩,⟨14,.nilCheck (.tmp 13),0,none⟩,⟨15,.fieldAddr 74 (.tmp 14) 2,0,none⟩,⟨16,.load 72 (.tmp 15),72,none⟩,⟨17,.fieldAddr 49 (.tmp 3) 2,0,none⟩,⟨18,.load 2 (.tmp 17),2,none⟩,⟨19,.fieldAddr 49 (.tmp 3) 0,0,none⟩,⟨20,.load 2 (.tmp 19),2,none⟩]
theorem Jbh  : (Jq Zv7).take Je0.length=Je0.map some:=by kernel_rfl
def Zon (i:Nat):List Nat:=nth [] [[],[0],[0,1],[0,1,2],[],[4],[],[6],[0,1,2,3,4,5,6,7]] i
def Zc0 (p:GP) (id k:Int) (X:Nat):List (Value→World→Prop) :=
 [eqv (.pointer (some ⟨p.g,0,none⟩)),eqv (.pointer (some ⟨p.g,0,none⟩)),eqv (.pointer (some ⟨p.g,5,none⟩)),eqv (.map (some p.t)),eqv (.pointer (some ⟨X,2,none⟩)),eqv (.int .i64 k),eqv (.pointer (some ⟨X,0,none⟩)),eqv (.int .i64 id)]
structure Zm7 (p:GP) (id k:Int) (X:Nat) (c:Act):Prop where
 t0:c.eval (.tmp 0)=.pointer (some ⟨p.g,0,none⟩)
 t3:c.eval (.tmp 3)=.pointer (some ⟨X,0,none⟩)
structure Zj1 (p:GP) (id k:Int) (X:Nat) (w:World):Prop where
 cm:w.cell? ⟨p.g,5,none⟩=some (.map (some p.t))
 xk:w.cell? ⟨X,2,none⟩=some (.int .i64 k)
 xi:w.cell? ⟨X,0,none⟩=some (.int .i64 id)
theorem Zrz (p:GP) (id k:Int) (X:Nat):∀ pr ∈ Zc0 p id k X,Zbv pr:=by
 unfold Zc0
 iterate 8 (first | refine List.forall_mem_cons.2 ⟨Jb _,?_⟩)
 exact List.forall_mem_nil _
theorem Jbi (p:GP) (id k:Int) (X:Nat) (Q:Exit→Act→World→Prop):∀ i,i<8→(fun i=>i ∉ ([]:List Nat)→∀ c w,Zm7 p id k X c→Zj1 p id k X w→(∀ q0 ∈ Zon i,Zf (Zc0 p id k X) q0 (val Zv7 c q0) w)→Zak Tryz.prog Zv7 Q (Zf (Zc0 p id k X)) i c w) i:=by
 iterate 8 (refine Zd ?_ (by
  intro hn c w hb hW hF
  first
  | exact absurd (by decide) hn
  | (have hEq:=Zag Jbh (by decide) hF
     refine Zar Jbh (by decide) rfl (fun _=>rfl) ?_
     obtain ⟨t0,t3⟩:=hb
     obtain ⟨cm,xk,xi⟩:=hW
     have ec:=evc c
     have ef:=evf c
     dsimp only [Zon,Je0,Zc0,nth,Zcp,Zbd,eqv] at hEq ⊢
     refine .inl fun pos af=>?_
     clear hF hn
     dsimp only [Sig.oper]
     generalize c.eval=ρ at *
     go_simp
     done)))
 exact Zj
theorem Jbj (p:GP) (id k:Int) (X:Nat) (Q:Exit→Act→World→Prop):∀ i,i<8→(fun i=>∀ c w,Zm7 p id k X c→Zj1 p id k X w→(∀ q0 ∈ Zon i,Zf (Zc0 p id k X) q0 (val Zv7 c q0) w)→Zak Tryz.prog Zv7 Q (Zf (Zc0 p id k X)) i c w) i:=by
 intro i hi
 exact Jbi p id k X Q i hi (by simp [*])
theorem Zr0 (p:GP) (id k:Int) (X:Nat) (Q:Exit→Act→World→Prop) (base:Act) (w0:World) (hsz:base.tmps.size=22) (hb:Zm7 p id k X base)
  (hW:∀ w,Below w0.heap.size w0 w→Zj1 p id k X w) (hL:∀ c w,Zae Zv7 base c→Below w0.heap.size w0 w→c.eval (.tmp 16)=.map (some p.t)→c.eval (.tmp 18)=.int .i64 k→c.eval (.tmp 20)=.int .i64 id→Calls Tryz.prog 141 #[.map (some p.t),.int .i64 k,.int .i64 id] w fun e w'=>∃ v,e=.returned v∧Q .normal (c.put (some 21) v) w'):(Code.region 2 Zv7 true).wp Tryz.prog Q base w0:=by
 have hall:(List.range 8).all (fun i=>(Zu Zv7 i).isSome)=true:=by kernel_rfl
 refine Zie (A:=Zon) (F:=Zf (Zc0 p id k X)) 8 (by kernel_rfl) (by kernel_rfl) (by rw [hsz];kernel_rfl) ?_ (by decide) (fun i v w w'=>Jd (Zrz p id k X) i v w w') ?_ ?_
 ·exact fun i hi=>Option.isSome_iff_exists.1 (List.all_eq_true.1 hall i (List.mem_range.2 hi))
 ·intro i hi c w hS hB hF
  exact Jbj p id k X Q i hi c w ⟨(Zc hS (by kernel_rfl)).trans hb.t0,(Zc hS (by kernel_rfl)).trans hb.t3⟩ (hW w hB) hF
 ·intro c w hS hB hF
  have e16:c.eval (.tmp 16)=.map (some p.t):=Zi (by kernel_rfl) rfl (hF 3 (by omega))
  have e18:c.eval (.tmp 18)=.int .i64 k:=Zi (by kernel_rfl) rfl (hF 5 (by omega))
  have e20:c.eval (.tmp 20)=.int .i64 id:=Zi (by kernel_rfl) rfl (hF 7 (by omega))
  refine Zmd (o:={ dst:=some 21,op:=Op.call { callee:=Callee.value (Operand.func 141),args:=#[Operand.tmp 16,Operand.tmp 18,Operand.tmp 20],argTypes:=#[72,2,2] },type:=0,pos := "edit.go:132",after:=#[{ on:=3,ground:=Ground.data },{ on:=5,ground:=Ground.data },{ on:=7,ground:=Ground.data }],guard:=none }) (by kernel_rfl) (Zn rfl) (f:=141) (args:=#[.map (some p.t),.int .i64 k,.int .i64 id]) ?_ (hL c w hS hB e16 e18 e20)
  have ef:=evf c
  have ec:=evc c
  clear hF hS hL hb hW
  generalize c.eval=ρ at *
  go_simp
structure Zzg (b Y:Nat) (w w':World):Prop where
 os:w'.os=w.os
 tape:w'.tape=w.tape
 output:w'.output=w.output
 size:w'.heap.size=w.heap.size
 other:∀ i,i≠b→i≠Y→w'.heap[i]?=w.heap[i]?
theorem Zzg.below {b Y B:Nat} {w w':World} (h:Zzg b Y w w') (h1:B≤b) (h2:B≤Y):Below B w w':=⟨h.os,h.tape,h.output,by rw [h.size];exact Nat.le_refl _,fun i hi=>h.other i (by omega) (by omega)⟩
theorem Zi6 {w:World} {b:Nat} {es:List (Int × Value)} (h:MI w b es) (j:Nat) (k id:Int) (Y off c:Nat) (hj:es[j]?=some (k,.slice (some ⟨Y,off,none⟩) 1 c)) (hu:∀ i p,es[i]?=some p→p.1=k→i=j) (hk:I64 k) (hc:w.cell? ⟨Y,off,none⟩=some (.int .i64 id)) (hz:w.frozen? ⟨Y,off,none⟩=false) (hc1:1≤c) (hc2:c≤9223372036854775807) (hYb:Y≠b) :
  Calls Tryz.prog 141 #[.map (some b),.int .i64 k,.int .i64 id] w fun e w'=>e=.returned (.tuple #[])∧MI w' b (es.eraseIdx j)∧Zzg b Y w w':=by
 have HM:=Zb h
 have HU:=Zb hu
 have HJ:=Zb hj
 have hmem:(k,Value.slice (some ⟨Y,off,none⟩) 1 c) ∈ es:=List.mem_of_getElem? hj
 have lk:=(Zis (z:=.slice none 0 0) Tryz.underlying72' h k (.slice (some ⟨Y,off,none⟩) 1 c) hk hmem (fun p hp e=>by
  obtain ⟨i,hi,he⟩:=List.mem_iff_getElem.1 hp
  have h1:es[i]?=some p:=by rw [List.getElem?_eq_getElem hi,he]
  have:=hu i p h1 e
  subst this
  rw [hj] at h1
  cases h1;rfl)).2
 have hBS:=Tryz.slices_BinarySearch_int Y off 1 c [id] id w (by simp) (by omega) (fun i hi=>by
  have:i=0:=by simp at hi;omega
  subst this
  simpa using hc) (by simp)
 have e0:(([id].take 1).countP (·<id):Nat)=0:=by simp
 have e1:([id].take 1).contains id=true:=by simp
 rw [e0,e1] at hBS
 have HBS:=Zb hBS
 have hcell:=hc
 have hfz:=hz
 have HCF:=Zb (And.intro hcell hfz)
 clear h hu hj hBS e0 e1 hcell hfz hc hz hmem
 go_enter Tryz.func141,Tryz.ntmps141
 go_wp2_with fail
 refine HBS.out.mono ?_
 rintro e w1 ⟨rfl,q,hw1⟩
 have hD:=Tryz.slices_Delete_int Y off c 0 1 [id] w1 (fun i hi=>by
  have:i=0:=by simp at hi;omega
  subst this
  rw [hw1]
  exact ⟨by simpa using HCF.out.1,HCF.out.2⟩) (by simpa using hc1) hc2 (by omega) (by simp)
 have HD:Hid (Calls Tryz.prog 180 #[.slice (some ⟨Y,off,none⟩) 1 c,.int .i64 0,.int .i64 1] w1 fun e w'=>e=.returned (.slice (some ⟨Y,off,none⟩) 0 c)∧∃ q,w'=Sort.putRow (Value.int .i64) (Sort.ahead w1 q) Y off #[0]):=by
  show Calls _ _ _ _ _
  simpa using hD
 have HM1:Hid (MI w1 b es):=by rw [hw1];exact HM.out.block rfl
 have HT1:Hid (Zzg b Y w w1):=by rw [hw1];exact ⟨rfl,rfl,rfl,rfl,fun _ _ _=>rfl⟩
 clear hD hw1 HBS HCF lk
 go_wp2_with fail
 refine HD.out.mono ?_
 rintro e w2 ⟨rfl,q2,hw2⟩
 have HT2:Hid (Zzg b Y w w2):=by
  rw [hw2]
  refine ⟨HT1.out.os,HT1.out.tape,HT1.out.output,by simpa [Sort.ahead] using HT1.out.size,fun i h1 h2=>?_⟩
  rw [← HT1.out.other i h1 h2]
  simp [Sort.putRow,Sort.mapBlock,Sort.ahead,Array.getElem?_modify,Ne.symm h2]
 have HM2:Hid (MI w2 b es):=by
  refine HM1.out.block ?_
  rw [hw2]
  simp [Sort.putRow,Sort.mapBlock,Sort.ahead,Array.getElem?_modify,hYb]
 clear hw2 HM1 HT1 HD
 obtain ⟨w3,hup,hm3,hs3,ho3,hb3⟩:=Zvt Tryz.underlying72' HM2.out j k (.slice (some ⟨Y,off,none⟩) 1 c) (.slice (some ⟨Y,off,none⟩) 0 c) hk HJ.out HU.out
 have HM3:=Zb hm3
 have HT3:Hid (Zzg b Y w w3):=⟨hb3.os.trans HT2.out.os,hb3.tape.trans HT2.out.tape,hb3.output.trans HT2.out.output,hs3.trans HT2.out.size,fun i h1 h2=>(ho3 i h1).trans (HT2.out.other i h1 h2)⟩
 clear hm3 hs3 ho3 hb3 HM2 HT2
 have hjl:j<es.length:=(List.getElem?_eq_some_iff.1 HJ.out).1
 obtain ⟨w4,hdel,hm4,hs4,ho4,hb4⟩:=Zp4 (ty:=0) Tryz.underlying72' HM3.out j k (.slice (some ⟨Y,off,none⟩) 0 c) hk (by simp [hjl]) (fun i p hp e=>by
  by_cases hij:j=i
  ·exact hij.symm
  ·rw [List.getElem?_set_ne hij] at hp
   exact HU.out i p hp e)
 have HM4:Hid (MI w4 b (es.eraseIdx j)):=by
  have e:(es.set j (k,Value.slice (some ⟨Y,off,none⟩) 0 c)).eraseIdx j=es.eraseIdx j:=by
   apply List.ext_getElem?
   intro i
   simp only [List.getElem?_eraseIdx]
   split
   ·rw [List.getElem?_set_ne (by omega)]
   ·rw [List.getElem?_set_ne (by omega)]
  show MI _ _ _
  rw [← e];exact hm4
 have HT4:Hid (Zzg b Y w w4):=⟨hb4.os.trans HT3.out.os,hb4.tape.trans HT3.out.tape,hb4.output.trans HT3.out.output,hs4.trans HT3.out.size,fun i h1 h2=>(ho4 i h1).trans (HT3.out.other i h1 h2)⟩
 clear hm4 hs4 ho4 hb4 HT3 HM3 hjl
 go_wp2_with fail
 exact bodyPost_end (v:=.tuple #[]) (by simp [results,Tryz.results141,go_sem]) rfl ⟨rfl,HM4.out,HT4.out⟩
theorem Zqd {w:World} {p:GP} {nn nr:Int} {N R F T:List (Int × Value)} (h:GS w p nn nr N R F T) (B:Nat) (hok:p.Ok B) (hB:B≤w.heap.size) (id f t:Int) (s:ByteArray) (pa:Option Addr) (pn pc:Nat) (hf:I64 f) (ht:I64 t)
  (i j Y Z yo zo yc zc:Nat) (hi:F[i]?=some (f,.slice (some ⟨Y,yo,none⟩) 1 yc)) (hj:T[j]?=some (t,.slice (some ⟨Z,zo,none⟩) 1 zc)) (hui:∀ a q,F[a]?=some q→q.1=f→a=i) (huj:∀ a q,T[a]?=some q→q.1=t→a=j)
  (y0:w.cell? ⟨Y,yo,none⟩=some (.int .i64 id)) (y1:w.frozen? ⟨Y,yo,none⟩=false) (z0:w.cell? ⟨Z,zo,none⟩=some (.int .i64 id)) (z1:w.frozen? ⟨Z,zo,none⟩=false) (hyc:1≤yc∧yc≤9223372036854775807) (hzc:1≤zc∧zc≤9223372036854775807)
  (hY:Y≠p.g∧Y≠p.n∧Y≠p.r∧Y≠p.f∧Y≠p.t∧B≤Y) (hZ:Z≠p.g∧Z≠p.n∧Z≠p.r∧Z≠p.f∧Z≠p.t∧B≤Z) (hYZ:Y≠Z) :
  Calls Tryz.prog 92 #[p.val,.agg #[.int .i64 id,.int .i64 f,.int .i64 t,.string s,.slice pa pn pc]] w fun e w'=>e=.returned (.tuple #[])∧GS w' p nn nr N R (F.eraseIdx i) (T.eraseIdx j)∧Below B w w':=by
 have HG:=Zb h
 have HOK:=Zb hok
 have HI:=Zb (And.intro hi hui)
 have HJ:=Zb (And.intro hj huj)
 have HY:=Zb (And.intro y0 (And.intro y1 hyc))
 have HZ:=Zb (And.intro z0 (And.intro z1 hzc))
 have hYl:Y<w.heap.size:=Zab y0
 have hZl:Z<w.heap.size:=Zab z0
 obtain ⟨Y1,Y2,Y3,Y4,Y5,Y6⟩:=hY
 obtain ⟨Z1,Z2,Z3,Z4,Z5,Z6⟩:=hZ
 clear h hok hi hj hui huj y0 y1 z0 z1 hyc hzc
 unfold GP.val
 go_enter Tryz.func92,Tryz.ntmps92
 go_upto_region 1 with fail
 generalize hW1:World.alloc _ _=W1
 have HB1:Hid (Below w.heap.size w W1):=by rw [← hW1];exact (Below.refl _ _).alloc (Nat.le_refl _) _
 have HR1:Hid (Rec W1 w.heap.size #[.int .i64 id,.int .i64 f,.int .i64 t,.string s,.slice pa pn pc] 49):=by rw [← hW1];exact Zl _ _ _
 have HG1:=Zb (HG.out.below HB1.out)
 clear hW1
 show (Code.region 1 Zv6 true).wp _ _ _ _
 refine Zry p id f w.heap.size _ _ _ rfl ⟨rfl,rfl⟩ ?_ ?_
 ·intro W hW
  exact ⟨(hW.cell (p:=⟨p.g,4,none⟩) HG1.out.obj.lt).trans HG1.out.c4,(hW.cell (p:=⟨w.heap.size,1,none⟩) HR1.out.lt).trans (HR1.out.cell 1 rfl),(hW.cell (p:=⟨w.heap.size,0,none⟩) HR1.out.lt).trans (HR1.out.cell 0 rfl)⟩
 intro c W2 hS hB2 e7 e9 e11
 have hB2':=Za HB1.out hB2
 refine (Zi6 (HG1.out.f.below hB2 (Nat.le_refl _)) i f id Y yo yc HI.out.1 HI.out.2 hf ((hB2'.cell (p:=⟨Y,yo,none⟩) hYl).trans HY.out.1) ((hB2'.frozen (p:=⟨Y,yo,none⟩) hYl).trans HY.out.2.1) HY.out.2.2.1 HY.out.2.2.2 Y4).mono ?_
 rintro e W3 ⟨rfl,hm3,ht3⟩
 refine ⟨_,rfl,?_⟩
 rw [Zao hS [4,5,6,7,8,9,10,11,12] (by kernel_rfl)]
 obtain ⟨y4,q4⟩:∃ y,c.eval (.tmp 4)=y:=⟨_,rfl⟩
 obtain ⟨y5,q5⟩:∃ y,c.eval (.tmp 5)=y:=⟨_,rfl⟩
 obtain ⟨y6,q6⟩:∃ y,c.eval (.tmp 6)=y:=⟨_,rfl⟩
 obtain ⟨y7,q7⟩:∃ y,c.eval (.tmp 7)=y:=⟨_,rfl⟩
 obtain ⟨y8,q8⟩:∃ y,c.eval (.tmp 8)=y:=⟨_,rfl⟩
 obtain ⟨y9,q9⟩:∃ y,c.eval (.tmp 9)=y:=⟨_,rfl⟩
 obtain ⟨y10,q10⟩:∃ y,c.eval (.tmp 10)=y:=⟨_,rfl⟩
 obtain ⟨y11,q11⟩:∃ y,c.eval (.tmp 11)=y:=⟨_,rfl⟩
 obtain ⟨y12,q12⟩:∃ y,c.eval (.tmp 12)=y:=⟨_,rfl⟩
 simp only [List.foldl_cons,List.foldl_nil,q4,q5,q6,q7,q8,q9,q10,q11,q12]
 clear q4 q5 q6 q7 q8 q9 q10 q11 q12
 simp only [Act.put,List.setIfInBounds_toArray,List.set_cons_succ,List.set_cons_zero]
 clear hS e7 e9 e11
 obtain ⟨o1,o2,o3,o4,o5,n1,n2,n3,n4,n5,n6,n7,n8,n9,n10⟩:=HOK.out
 have HG2:=Zb (HG1.out.below hB2)
 have u1:=HG.out.obj.lt
 have u4:=HG.out.f.lt
 have u5:=HG.out.t.lt
 have HG3:Hid (GS W3 p nn nr N R (F.eraseIdx i) T) :=
  ⟨HG2.out.obj.keep (ht3.other _ n3 (Ne.symm Y1)),HG2.out.n.block (ht3.other _ n6 (Ne.symm Y2)),HG2.out.r.block (ht3.other _ n8 (Ne.symm Y3)),hm3,HG2.out.t.block (ht3.other _ (Ne.symm n10) (Ne.symm Y5))⟩
 have HR3:Hid (Rec W3 w.heap.size #[.int .i64 id,.int .i64 f,.int .i64 t,.string s,.slice pa pn pc] 49):=(HR1.out.below hB2 HR1.out.lt).keep (ht3.other _ (by omega) (by omega))
 have HB3:Hid (Below B w W3):=(hB2'.mono hB).trans (ht3.below o4 Y6)
 have HZ3:Hid (W3.heap[Z]?=w.heap[Z]?):=(ht3.other Z Z4 (Ne.symm hYZ)).trans (hB2'.block Z hZl)
 clear hm3 ht3 HG2 HG1 HB1 HR1 hB2 hB2'
 go_upto_region 2 with fail
 show (Code.region 2 Zv7 true).wp _ _ _ _
 refine Zr0 p id t w.heap.size _ _ _ rfl ⟨rfl,rfl⟩ ?_ ?_
 ·intro W hW
  exact ⟨(hW.cell (p:=⟨p.g,5,none⟩) HG3.out.obj.lt).trans HG3.out.c5,(hW.cell (p:=⟨w.heap.size,2,none⟩) HR3.out.lt).trans (HR3.out.cell 2 rfl),(hW.cell (p:=⟨w.heap.size,0,none⟩) HR3.out.lt).trans (HR3.out.cell 0 rfl)⟩
 intro c W4 hS hB4 e16 e18 e20
 have hZl3:Z<W3.heap.size:=by have:=HB3.out.size;omega
 have hZ4:W4.heap[Z]?=w.heap[Z]?:=(hB4.block Z hZl3).trans HZ3.out
 refine (Zi6 (HG3.out.t.below hB4 (Nat.le_refl _)) j t id Z zo zc HJ.out.1 HJ.out.2 ht ((World.cell?_of_block (a:=⟨Z,zo,none⟩) hZ4).trans HZ.out.1) ((World.frozen?_of_block (a:=⟨Z,zo,none⟩) hZ4).trans HZ.out.2.1) HZ.out.2.2.1 HZ.out.2.2.2 Z5).mono ?_
 rintro e W5 ⟨rfl,hm5,ht5⟩
 refine ⟨_,rfl,?_⟩
 rw [Zao hS [13,14,15,16,17,18,19,20,21] (by kernel_rfl)]
 obtain ⟨y13,q13⟩:∃ y,c.eval (.tmp 13)=y:=⟨_,rfl⟩
 obtain ⟨y14,q14⟩:∃ y,c.eval (.tmp 14)=y:=⟨_,rfl⟩
 obtain ⟨y15,q15⟩:∃ y,c.eval (.tmp 15)=y:=⟨_,rfl⟩
 obtain ⟨y16,q16⟩:∃ y,c.eval (.tmp 16)=y:=⟨_,rfl⟩
 obtain ⟨y17,q17⟩:∃ y,c.eval (.tmp 17)=y:=⟨_,rfl⟩
 obtain ⟨y18,q18⟩:∃ y,c.eval (.tmp 18)=y:=⟨_,rfl⟩
 obtain ⟨y19,q19⟩:∃ y,c.eval (.tmp 19)=y:=⟨_,rfl⟩
 obtain ⟨y20,q20⟩:∃ y,c.eval (.tmp 20)=y:=⟨_,rfl⟩
 obtain ⟨y21,q21⟩:∃ y,c.eval (.tmp 21)=y:=⟨_,rfl⟩
 simp only [List.foldl_cons,List.foldl_nil,q13,q14,q15,q16,q17,q18,q19,q20,q21]
 clear q13 q14 q15 q16 q17 q18 q19 q20 q21
 simp only [Act.put,List.setIfInBounds_toArray,List.set_cons_succ,List.set_cons_zero]
 clear hS e16 e18 e20 hZ4
 have HG4:=Zb (HG3.out.below hB4)
 have HG5:Hid (GS W5 p nn nr N R (F.eraseIdx i) (T.eraseIdx j)) :=
  ⟨HG4.out.obj.keep (ht5.other _ n4 (Ne.symm Z1)),HG4.out.n.block (ht5.other _ n7 (Ne.symm Z2)),HG4.out.r.block (ht5.other _ n9 (Ne.symm Z3)),HG4.out.f.block (ht5.other _ n10 (Ne.symm Z4)),hm5⟩
 have HB5:Hid (Below B w W5):=(HB3.out.trans (hB4.mono (by have:=HB3.out.size;omega))).trans (ht5.below o5 Z6)
 clear hm5 ht5 HG4 hB4
 go_wp2_with fail
 exact bodyPost_end (v:=.tuple #[]) (by simp [results,Tryz.results92,go_sem]) rfl ⟨rfl,HG5.out,HB5.out⟩
end
