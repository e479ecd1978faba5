/- A relationship is added to a graph that is there. -/
import Derived.Test.YteddjlbfbpecjaaGreatDoorGed16
namespace Go.Proofs.YteddjlbfbpecjaaGreatDoor
open Go.RowKit Go.Shelf
set_option maxHeartbeats 8000000
set_option maxRecDepth 100000
set_option linter.unusedVariables false
set_option linter.unusedSimpArgs false
attribute [local go_sem] Oper.semAt_some
theorem Tryz.underlying72'  : Tryz.prog.underlying 72=some (.map 2 100):=by kernel_rfl
theorem zero100 (w:World):(zeroValue 100).run Tryz.prog w=.ok (.slice none 0 0) w:=by kernel_rfl
theorem attach_new {w:World} {p:GP} {nn nr:Int} {N R F T:List (Int × Value)} (h:GS w p nn nr N R F T) (B:Nat) (hok:p.Ok B) (hB:B≤w.heap.size) (id f t:Int) (s:ByteArray) (pa:Option Addr) (pn pc:Nat) (hf:I64 f) (ht:I64 t) (hF:∀ q ∈ F,q.1≠f) (hT:∀ q ∈ T,q.1≠t) :
  Calls Tryz.prog 40 #[p.val,.agg #[.int .i64 id,.int .i64 f,.int .i64 t,.string s,.slice pa pn pc]] w fun e w'=>e=.returned (.tuple #[])∧∃ fv tv,GS w' p nn nr N R (F++[(f,fv)]) (T++[(t,tv)])∧w'.ownsRow w.heap.size 2 1 fv 1 [.int .i64 id]∧(∃ b,w.heap.size≤b∧w'.ownsRow b 2 1 tv 1 [.int .i64 id]∧∀ q,fv.ownBlock=some q→q<b)∧Below B w w'∧(∀ i,i<w.heap.size→i≠p.f→i≠p.t→w'.heap[i]?=w.heap[i]?):=by
 have HG:=hidE h
 have HOK:=hidE hok
 have HF:=hidE hF
 have HT:=hidE hT
 have hold:p.g<w.heap.size∧p.n<w.heap.size∧p.r<w.heap.size∧p.f<w.heap.size∧p.t<w.heap.size:=⟨h.obj.lt,h.n.lt,h.r.lt,h.f.lt,h.t.lt⟩
 obtain ⟨u1,u2,u3,u4,u5⟩:=hold
 clear h hok hF hT
 unfold GP.val
 go_enter Tryz.func40,Tryz.ntmps40
 go_upto_region 1 with fail
 generalize hW1:World.alloc _ _=W1
 have HB1:Hid (Below w.heap.size w W1):=by rw [← hW1];exact (Below.refl _ _).alloc (Nat.le_refl _) _
 have HR1:Hid (Rec W1 w.heap.size #[.int .i64 id,.int .i64 f,.int .i64 t,.string s,.slice pa pn pc] 49):=by rw [← hW1];exact rec_new _ _ _
 have hs1:w.heap.size<W1.heap.size:=by rw [← hW1];simp
 have HG1:=hidE (HG.out.below HB1.out)
 clear hW1
 show (Code.region 1 RAT1 true).wp _ _ _ _
 refine regionAT1 p id f w.heap.size W1.heap.size _ _ _ rfl ⟨rfl,rfl⟩ ?_ ?_
 ·intro W hW
  exact ⟨(hW.cell (p:=⟨p.g,4,none⟩) HG1.out.obj.lt).trans HG1.out.c4,(hW.cell (p:=⟨w.heap.size,1,none⟩) hs1).trans (HR1.out.cell 1 rfl),(hW.cell (p:=⟨w.heap.size,0,none⟩) hs1).trans (HR1.out.cell 0 rfl),(mi_miss Tryz.underlying72' zero100 (HG1.out.f.below hW (Nat.le_refl _)) f hf HF.out).2,hW.size⟩
 rintro c W2 hS hB2 e7 e9 ⟨hown,ua,uc,e20⟩
 obtain ⟨W3,hup,hmi,hs3,ho3,hb3⟩:=mi_new Tryz.underlying72' (HG1.out.f.below hB2 (Nat.le_refl _)) f (.slice ua 1 uc) hf HF.out
 refine ⟨W3,?_,?_⟩
 ·generalize c.eval=ρ at *
  clear hS hmi ho3 hb3 hown
  go_simp
 rw [e20] at hown
 rw [same_put hS [4,5,6,7,8,9,10,11,12,13,14,15,16,17,18,19,20] (by kernel_rfl)]
 obtain ⟨y4,q4⟩:∃ y,c.eval (.tmp 4)=y:=⟨_,rfl⟩
 obtain ⟨y5,q5⟩:∃ y,c.eval (.tmp 5)=y:=⟨_,rfl⟩
 obtain ⟨y6,q6⟩:∃ y,c.eval (.tmp 6)=y:=⟨_,rfl⟩
 obtain ⟨y7,q7⟩:∃ y,c.eval (.tmp 7)=y:=⟨_,rfl⟩
 obtain ⟨y8,q8⟩:∃ y,c.eval (.tmp 8)=y:=⟨_,rfl⟩
 obtain ⟨y9,q9⟩:∃ y,c.eval (.tmp 9)=y:=⟨_,rfl⟩
 obtain ⟨y10,q10⟩:∃ y,c.eval (.tmp 10)=y:=⟨_,rfl⟩
 obtain ⟨y11,q11⟩:∃ y,c.eval (.tmp 11)=y:=⟨_,rfl⟩
 obtain ⟨y12,q12⟩:∃ y,c.eval (.tmp 12)=y:=⟨_,rfl⟩
 obtain ⟨y13,q13⟩:∃ y,c.eval (.tmp 13)=y:=⟨_,rfl⟩
 obtain ⟨y14,q14⟩:∃ y,c.eval (.tmp 14)=y:=⟨_,rfl⟩
 obtain ⟨y15,q15⟩:∃ y,c.eval (.tmp 15)=y:=⟨_,rfl⟩
 obtain ⟨y16,q16⟩:∃ y,c.eval (.tmp 16)=y:=⟨_,rfl⟩
 obtain ⟨y17,q17⟩:∃ y,c.eval (.tmp 17)=y:=⟨_,rfl⟩
 obtain ⟨y18,q18⟩:∃ y,c.eval (.tmp 18)=y:=⟨_,rfl⟩
 obtain ⟨y19,q19⟩:∃ y,c.eval (.tmp 19)=y:=⟨_,rfl⟩
 obtain ⟨y20,q20⟩:∃ y,c.eval (.tmp 20)=y:=⟨_,rfl⟩
 simp only [List.foldl_cons,List.foldl_nil,q4,q5,q6,q7,q8,q9,q10,q11,q12,q13,q14,q15,q16,q17,q18,q19,q20]
 clear q4 q5 q6 q7 q8 q9 q10 q11 q12 q13 q14 q15 q16 q17 q18 q19 q20
 simp only [List.setIfInBounds_toArray,List.set_cons_succ,List.set_cons_zero]
 clear hS e7 e9 e20 hup
 obtain ⟨o1,o2,o3,o4,o5,n1,n2,n3,n4,n5,n6,n7,n8,n9,n10⟩:=HOK.out
 have HG2:=hidE (HG1.out.below hB2)
 have HG3:Hid (GS W3 p nn nr N R (F++[(f,.slice ua 1 uc)]) T) :=
  ⟨HG2.out.obj.keep (ho3 _ n3),HG2.out.n.block (ho3 _ n6),HG2.out.r.block (ho3 _ n8),hmi,HG2.out.t.block (ho3 _ (Ne.symm n10))⟩
 have HR3:Hid (Rec W3 w.heap.size #[.int .i64 id,.int .i64 f,.int .i64 t,.string s,.slice pa pn pc] 49):=(HR1.out.below hB2 hs1).keep (ho3 _ (by omega))
 have HO3:Hid (W3.ownsRow W1.heap.size 2 1 (.slice ua 1 uc) 1 [.int .i64 id]):=row_keep hown fun g hg _=>ho3 g (by omega)
 have hs3':W1.heap.size≤W3.heap.size:=by rw [hs3];exact hB2.size
 have HK3:Hid (∀ i,i<w.heap.size→i≠p.f→W3.heap[i]?=w.heap[i]?):=fun i hi h1=>(ho3 i h1).trans ((hB2.block i (by omega)).trans (HB1.out.block i hi))
 have HB3:Hid (Below B w W3):=(HB1.out.mono hB).trans ((hB2.mono (by omega)).trans (hb3.mono o4))
 clear hmi ho3 hb3 hs3 hB2 HG2 hown HG1 HB1 HR1
 go_upto_region 2 with fail
 show (Code.region 2 RAT2 true).wp _ _ _ _
 refine regionAT2 p id t w.heap.size W3.heap.size _ _ _ rfl ⟨rfl,rfl⟩ ?_ ?_
 ·intro W hW
  exact ⟨(hW.cell (p:=⟨p.g,5,none⟩) HG3.out.obj.lt).trans HG3.out.c5,(hW.cell (p:=⟨w.heap.size,2,none⟩) HR3.out.lt).trans (HR3.out.cell 2 rfl),(hW.cell (p:=⟨w.heap.size,0,none⟩) HR3.out.lt).trans (HR3.out.cell 0 rfl),(mi_miss Tryz.underlying72' zero100 (HG3.out.t.below hW (Nat.le_refl _)) t ht HT.out).2,hW.size⟩
 rintro c W4 hS hB4 e7 e9 ⟨hown,va,vc,e20⟩
 obtain ⟨W5,hup,hmi,hs5,ho5,hb5⟩:=mi_new Tryz.underlying72' (HG3.out.t.below hB4 (Nat.le_refl _)) t (.slice va 1 vc) ht HT.out
 refine ⟨W5,?_,?_⟩
 ·generalize c.eval=ρ at *
  clear hS hmi ho5 hb5 hown
  go_simp
 rw [e20] at hown
 rw [same_put hS [21,22,23,24,25,26,27,28,29,30,31,32,33,34,35,36,37] (by kernel_rfl)]
 obtain ⟨y21,q21⟩:∃ y,c.eval (.tmp 21)=y:=⟨_,rfl⟩
 obtain ⟨y22,q22⟩:∃ y,c.eval (.tmp 22)=y:=⟨_,rfl⟩
 obtain ⟨y23,q23⟩:∃ y,c.eval (.tmp 23)=y:=⟨_,rfl⟩
 obtain ⟨y24,q24⟩:∃ y,c.eval (.tmp 24)=y:=⟨_,rfl⟩
 obtain ⟨y25,q25⟩:∃ y,c.eval (.tmp 25)=y:=⟨_,rfl⟩
 obtain ⟨y26,q26⟩:∃ y,c.eval (.tmp 26)=y:=⟨_,rfl⟩
 obtain ⟨y27,q27⟩:∃ y,c.eval (.tmp 27)=y:=⟨_,rfl⟩
 obtain ⟨y28,q28⟩:∃ y,c.eval (.tmp 28)=y:=⟨_,rfl⟩
 obtain ⟨y29,q29⟩:∃ y,c.eval (.tmp 29)=y:=⟨_,rfl⟩
 obtain ⟨y30,q30⟩:∃ y,c.eval (.tmp 30)=y:=⟨_,rfl⟩
 obtain ⟨y31,q31⟩:∃ y,c.eval (.tmp 31)=y:=⟨_,rfl⟩
 obtain ⟨y32,q32⟩:∃ y,c.eval (.tmp 32)=y:=⟨_,rfl⟩
 obtain ⟨y33,q33⟩:∃ y,c.eval (.tmp 33)=y:=⟨_,rfl⟩
 obtain ⟨y34,q34⟩:∃ y,c.eval (.tmp 34)=y:=⟨_,rfl⟩
 obtain ⟨y35,q35⟩:∃ y,c.eval (.tmp 35)=y:=⟨_,rfl⟩
 obtain ⟨y36,q36⟩:∃ y,c.eval (.tmp 36)=y:=⟨_,rfl⟩
 obtain ⟨y37,q37⟩:∃ y,c.eval (.tmp 37)=y:=⟨_,rfl⟩
 simp only [List.foldl_cons,List.foldl_nil,q21,q22,q23,q24,q25,q26,q27,q28,q29,q30,q31,q32,q33,q34,q35,q36,q37]
 clear q21 q22 q23 q24 q25 q26 q27 q28 q29 q30 q31 q32 q33 q34 q35 q36 q37
 simp only [List.setIfInBounds_toArray,List.set_cons_succ,List.set_cons_zero]
 clear hS e7 e9 e20 hup
 have HG4:=hidE (HG3.out.below hB4)
 have HG5:Hid (GS W5 p nn nr N R (F++[(f,.slice ua 1 uc)]) (T++[(t,.slice va 1 vc)])) :=
  ⟨HG4.out.obj.keep (ho5 _ n4),HG4.out.n.block (ho5 _ n7),HG4.out.r.block (ho5 _ n9),HG4.out.f.block (ho5 _ n10),hmi⟩
 have HO5:Hid (W5.ownsRow w.heap.size 2 1 (.slice ua 1 uc) 1 [.int .i64 id]):=row_base (row_keep HO3.out fun g hg hl=>(ho5 g (by omega)).trans (hB4.block g hl)) (by omega)
 have HP5:Hid (W5.ownsRow W3.heap.size 2 1 (.slice va 1 vc) 1 [.int .i64 id]):=row_keep hown fun g hg _=>ho5 g (by omega)
 have HQ:Hid (∀ q,(Value.slice ua 1 uc).ownBlock=some q→q<W3.heap.size):=fun q hq=>(HO3.out.lt q hq).2
 have HB5:Hid (Below B w W5):=HB3.out.trans ((hB4.mono (by omega)).trans (hb5.mono o5))
 have HK5:Hid (∀ i,i<w.heap.size→i≠p.f→i≠p.t→W5.heap[i]?=w.heap[i]?):=fun i hi h1 h2=>(ho5 i h2).trans ((hB4.block i (by omega)).trans (HK3.out i hi h1))
 clear hmi ho5 hb5 hs5 hB4 HG4 hown
 go_wp2_with fail
 exact bodyPost_end (v:=.tuple #[]) (by simp [results,Tryz.results40,go_sem]) rfl ⟨rfl,_,_,HG5.out,HO5.out,⟨W3.heap.size,by omega,HP5.out,HQ.out⟩,HB5.out,HK5.out⟩
theorem has_node {w:World} {p:GP} {nn nr:Int} {N R F T:List (Int × Value)} (h:GS w p nn nr N R F T) (hN:Uniq N) (hR:Uniq R) (hn:∀ q ∈ N,NodeV q.2) (hr:∀ q ∈ R,RelV q.2) (k:Int) (hk:I64 k) (b:Bool) (hb:hasB k N=b) :
  Calls Tryz.prog 91 #[.pointer (some ⟨p.g,0,none⟩),.bool false,.int .i64 k] w fun e w'=>e=.returned (.bool b)∧Below w.heap.size w w':=by
 have:=has_any h hN hR hn hr false k hk
 simpa [hb,GP.val] using this
theorem addRel_none {w:World} {p:GP} {nn nr:Int} {N R F T:List (Int × Value)} (h:GS w p nn nr N R F T) (hN:Uniq N) (hR:Uniq R) (hn:∀ q ∈ N,NodeV q.2) (hr:∀ q ∈ R,RelV q.2) (f t:Int) (s:ByteArray) (pv:Value) (hpv:∃ a n c,pv=.slice a n c) (hf:I64 f) (ht:I64 t) (hf1:hasB f N=true) (ht1:hasB t N=false)
  (ha:∀ W,Below w.heap.size w W→Calls Tryz.prog 90 #[.string s] W fun e w'=>e=.returned (.bool true)∧Below W.heap.size W w')
  (hs:∀ W,Below w.heap.size w W→Calls Tryz.prog 86 #[pv] W fun e w'=>e=.returned (.bool true)∧Below W.heap.size W w') :
  Calls Tryz.prog 32 #[p.val,.int .i64 f,.int .i64 t,.string s,pv] w fun e w'=>e=.returned (.tuple #[.int .i64 0,.int .i64 5])∧Below w.heap.size w w':=by
 obtain ⟨qa,qn,qc,rfl⟩:=hpv
 have HH1:Hid (∀ W,Below w.heap.size w W→Calls Tryz.prog 91 #[.pointer (some ⟨p.g,0,none⟩),.bool false,.int .i64 f] W fun e w'=>e=.returned (.bool true)∧Below W.heap.size W w'):=fun W hW=>has_node (h.below hW) hN hR hn hr f hf true hf1
 have HH2:Hid (∀ W,Below w.heap.size w W→Calls Tryz.prog 91 #[.pointer (some ⟨p.g,0,none⟩),.bool false,.int .i64 t] W fun e w'=>e=.returned (.bool false)∧Below W.heap.size W w'):=fun W hW=>has_node (h.below hW) hN hR hn hr t ht false ht1
 have HTh:=hidE (there_yes h)
 have HA:=hidE ha
 have HS:=hidE hs
 clear h hN hR hn hr ha hs hf ht hf1 ht1
 unfold GP.val at HTh ⊢
 go_enter Tryz.func32,Tryz.ntmps32
 go_wp2_with fail
 refine HTh.out.mono ?_
 rintro e w1 ⟨rfl,hw1⟩
 rw [hw1]
 clear hw1 HTh
 go_wp2_with fail
 refine (HA.out w (Below.refl _ _)).mono ?_
 rintro e w2 ⟨rfl,hb2⟩
 have HB2:=hidE hb2
 clear hb2 HA
 go_wp2_with fail
 refine (HS.out w2 HB2.out).mono ?_
 rintro e w3 ⟨rfl,hb3⟩
 have HB3:=hidE (below_on HB2.out hb3)
 clear hb3 HS HB2
 go_wp2_with fail
 refine (HH1.out w3 HB3.out).mono ?_
 rintro e w4 ⟨rfl,hb4⟩
 have HB4:=hidE (below_on HB3.out hb4)
 clear hb4 HH1 HB3
 go_wp2_with fail
 refine (HH2.out w4 HB4.out).mono ?_
 rintro e w5 ⟨rfl,hb5⟩
 have HB5:=hidE (below_on HB4.out hb5)
 clear hb5 HH2 HB4
 go_wp2_with fail
 go_ret2
 exact ⟨rfl,HB5.out⟩
theorem addRel_ok {w:World} {p:GP} {nn nr:Int} {N R F T:List (Int × Value)} (h:GS w p nn nr N R F T) (B:Nat) (hok:p.Ok B) (hB:B≤w.heap.size) (hN:Uniq N) (hR:Uniq R) (hn:∀ q ∈ N,NodeV q.2) (hr:∀ q ∈ R,RelV q.2) (f t:Int) (s:ByteArray) (pv:Value) (K:World→Value→Prop) (hpv:∃ a n c,pv=.slice a n c) (hf:I64 f) (ht:I64 t) (hf1:hasB f N=true) (ht1:hasB t N=true)
  (ha:∀ W,Below w.heap.size w W→Calls Tryz.prog 90 #[.string s] W fun e w'=>e=.returned (.bool true)∧Below W.heap.size W w')
  (hs:∀ W,Below w.heap.size w W→Calls Tryz.prog 86 #[pv] W fun e w'=>e=.returned (.bool true)∧Below W.heap.size W w')
  (hk:∀ W,Below w.heap.size w W→Calls Tryz.prog 88 #[pv] W fun e w'=>∃ a n c,e=.returned (.slice a n c)∧K w' (.slice a n c)∧Below W.heap.size W w')
  (hnr:I64 nr) (hnr1:nr<4611686018427387904) (hnr0:0≤nr) (hnew:∀ q ∈ R,q.1≠nr) (hF:∀ q ∈ F,q.1≠f) (hT:∀ q ∈ T,q.1≠t) (hsz:N.length+R.length<65536) :
  Calls Tryz.prog 32 #[p.val,.int .i64 f,.int .i64 t,.string s,pv] w fun e w'=>e=.returned (.tuple #[.int .i64 nr,.int .i64 0])∧∃ pa pn pc fv tv,GS w' p nn (nr+1) N (R++[(nr,.agg #[.int .i64 nr,.int .i64 f,.int .i64 t,.string s,.slice pa pn pc])]) (F++[(f,fv)]) (T++[(t,tv)])∧w'.ownsRow w.heap.size 2 1 fv 1 [.int .i64 nr]∧(∃ b,w.heap.size≤b∧w'.ownsRow b 2 1 tv 1 [.int .i64 nr]∧∀ q,fv.ownBlock=some q→q<b)∧Below B w w':=by
 obtain ⟨qa,qn,qc,rfl⟩:=hpv
 have HG:=hidE h
 have HH1:Hid (∀ W,Below w.heap.size w W→Calls Tryz.prog 91 #[.pointer (some ⟨p.g,0,none⟩),.bool false,.int .i64 f] W fun e w'=>e=.returned (.bool true)∧Below W.heap.size W w'):=fun W hW=>has_node (h.below hW) hN hR hn hr f hf true hf1
 have HH2:Hid (∀ W,Below w.heap.size w W→Calls Tryz.prog 91 #[.pointer (some ⟨p.g,0,none⟩),.bool false,.int .i64 t] W fun e w'=>e=.returned (.bool true)∧Below W.heap.size W w'):=fun W hW=>has_node (h.below hW) hN hR hn hr t ht true ht1
 have HTh:=hidE (there_yes h)
 have HA:=hidE ha
 have HS:=hidE hs
 have HK:=hidE hk
 have HOK:=hidE hok
 have HNEW:=hidE hnew
 have HF:=hidE hF
 have HT:=hidE hT
 have hold:p.g<w.heap.size∧p.n<w.heap.size∧p.r<w.heap.size∧p.f<w.heap.size∧p.t<w.heap.size:=⟨h.obj.lt,h.n.lt,h.r.lt,h.f.lt,h.t.lt⟩
 obtain ⟨u1,u2,u3,u4,u5⟩:=hold
 clear h hN hR hn hr ha hs hf1 ht1 hk hok hnew hF hT
 unfold GP.val at HTh ⊢
 go_enter Tryz.func32,Tryz.ntmps32
 go_wp2_with fail
 refine HTh.out.mono ?_
 rintro e w1 ⟨rfl,hw1⟩
 rw [hw1]
 clear hw1 HTh
 go_wp2_with fail
 refine (HA.out w (Below.refl _ _)).mono ?_
 rintro e w2 ⟨rfl,hb2⟩
 have HB2:=hidE hb2
 clear hb2 HA
 go_wp2_with fail
 refine (HS.out w2 HB2.out).mono ?_
 rintro e w3 ⟨rfl,hb3⟩
 have HB3:=hidE (below_on HB2.out hb3)
 clear hb3 HS HB2
 go_wp2_with fail
 refine (HH1.out w3 HB3.out).mono ?_
 rintro e w4 ⟨rfl,hb4⟩
 have HB4:=hidE (below_on HB3.out hb4)
 clear hb4 HH1 HB3
 go_wp2_with fail
 refine (HH2.out w4 HB4.out).mono ?_
 rintro e w5 ⟨rfl,hb5⟩
 have HB5:=hidE (below_on HB4.out hb5)
 clear hb5 HH2 HB4
 have HG5:=hidE (HG.out.below HB5.out)
 have HFu:=hidE (full_not HG5.out hsz nr hnr1)
 unfold GP.val at HFu
 have c3:=HG5.out.c3
 go_wp2_with fail
 refine HFu.out.mono ?_
 rintro e w6 ⟨rfl,hb6⟩
 have HB6:=hidE (below_on HB5.out hb6)
 have HG6:=hidE (HG.out.below HB6.out)
 clear hb6 c3 HFu HG5 HB5
 go_upto_region 9 with fail
 show (Code.region 9 RAR9 true).wp _ _ _ _
 refine regionAR9 p nr f t s (.slice qa qn qc) w6.heap.size K _ _ _ rfl ⟨rfl,rfl,rfl,rfl,rfl⟩ ?_ ?_
 ·intro W hW
  exact ⟨(hW.cell (p:=⟨p.g,3,none⟩) HG6.out.obj.lt).trans HG6.out.c3,hW.size,HK.out W (below_on HB6.out hW)⟩
 rintro c W7 hS hB7 ⟨pa,pn,pc,e55,_⟩ ⟨X,e12,hX,hr7⟩
 obtain ⟨W8,hrun,hput⟩:=store49 c.eval X W7 _ _ _ _ _ nr f t s pa pn pc hr7 e12 e55
 refine ⟨W8,hrun,?_⟩
 clear hrun
 rw [same_put hS [45,46,47,48,49,50,51,52,53,54,55,12] (by kernel_rfl)]
 obtain ⟨y45,q45⟩:∃ y,c.eval (.tmp 45)=y:=⟨_,rfl⟩
 obtain ⟨y46,q46⟩:∃ y,c.eval (.tmp 46)=y:=⟨_,rfl⟩
 obtain ⟨y47,q47⟩:∃ y,c.eval (.tmp 47)=y:=⟨_,rfl⟩
 obtain ⟨y48,q48⟩:∃ y,c.eval (.tmp 48)=y:=⟨_,rfl⟩
 obtain ⟨y49,q49⟩:∃ y,c.eval (.tmp 49)=y:=⟨_,rfl⟩
 obtain ⟨y50,q50⟩:∃ y,c.eval (.tmp 50)=y:=⟨_,rfl⟩
 obtain ⟨y51,q51⟩:∃ y,c.eval (.tmp 51)=y:=⟨_,rfl⟩
 obtain ⟨y52,q52⟩:∃ y,c.eval (.tmp 52)=y:=⟨_,rfl⟩
 obtain ⟨y53,q53⟩:∃ y,c.eval (.tmp 53)=y:=⟨_,rfl⟩
 obtain ⟨y54,q54⟩:∃ y,c.eval (.tmp 54)=y:=⟨_,rfl⟩
 obtain ⟨y55,q55⟩:∃ y,c.eval (.tmp 55)=y:=⟨_,rfl⟩
 obtain ⟨y12,q12⟩:∃ y,c.eval (.tmp 12)=y:=⟨_,rfl⟩
 simp only [List.foldl_cons,List.foldl_nil,q45,q46,q47,q48,q49,q50,q51,q52,q53,q54,q55,q12]
 rw [e12] at q12
 rw [e55] at q55
 subst q12 q55
 clear q45 q46 q47 q48 q49 q50 q51 q52 q53 q54
 simp only [List.setIfInBounds_toArray,List.set_cons_succ,List.set_cons_zero]
 clear e12 e55 hS
 have HB8:Hid (Below w.heap.size w W8):=(HB6.out.trans (hB7.mono HB6.out.size)).trans (hput.below.mono (Nat.le_trans HB6.out.size hX))
 have HG8:Hid (GS W8 p nn nr N R F T):=HG.out.below HB8.out
 have HR8:=hidE hput.r
 have hX0:w.heap.size≤X:=Nat.le_trans HB6.out.size hX
 clear hput hr7 hB7 hX HB6 HG6 HK
 go_upto_region 10 with fail
 show (Code.region 10 RAR10 true).wp _ _ _ _
 refine regionAR10 p nr f t s X pa pn pc _ _ _ rfl ⟨rfl,rfl⟩ ?_ ?_
 ·intro W hW
  exact ⟨(hW.cell (p:=⟨p.g,1,none⟩) HG8.out.obj.lt).trans HG8.out.c1,(hW.cell (p:=⟨X,0,none⟩) HR8.out.lt).trans (HR8.out.cell 0 rfl),(hW.cell (p:=⟨X,1,none⟩) HR8.out.lt).trans (HR8.out.cell 1 rfl),(hW.cell (p:=⟨X,2,none⟩) HR8.out.lt).trans (HR8.out.cell 2 rfl),(hW.cell (p:=⟨X,3,none⟩) HR8.out.lt).trans (HR8.out.cell 3 rfl),(hW.cell (p:=⟨X,4,none⟩) HR8.out.lt).trans (HR8.out.cell 4 rfl)⟩
 intro c W9 hS hB9 e60 e62 e63
 obtain ⟨W10,hup,hmi,hs10,ho10,hb10⟩:=mi_new Tryz.underlying69' (HG8.out.r.below hB9 (Nat.le_refl _)) nr (.agg #[.int .i64 nr,.int .i64 f,.int .i64 t,.string s,.slice pa pn pc]) hnr HNEW.out
 refine ⟨W10,?_,?_⟩
 ·generalize c.eval=ρ at *
  clear hS hmi ho10 hb10
  go_simp
 rw [same_put hS [56,57,58,59,60,61,62,63] (by kernel_rfl)]
 obtain ⟨y56,q56⟩:∃ y,c.eval (.tmp 56)=y:=⟨_,rfl⟩
 obtain ⟨y57,q57⟩:∃ y,c.eval (.tmp 57)=y:=⟨_,rfl⟩
 obtain ⟨y58,q58⟩:∃ y,c.eval (.tmp 58)=y:=⟨_,rfl⟩
 obtain ⟨y59,q59⟩:∃ y,c.eval (.tmp 59)=y:=⟨_,rfl⟩
 obtain ⟨y60,q60⟩:∃ y,c.eval (.tmp 60)=y:=⟨_,rfl⟩
 obtain ⟨y61,q61⟩:∃ y,c.eval (.tmp 61)=y:=⟨_,rfl⟩
 obtain ⟨y62,q62⟩:∃ y,c.eval (.tmp 62)=y:=⟨_,rfl⟩
 obtain ⟨y63,q63⟩:∃ y,c.eval (.tmp 63)=y:=⟨_,rfl⟩
 simp only [List.foldl_cons,List.foldl_nil,q56,q57,q58,q59,q60,q61,q62,q63]
 clear q56 q57 q58 q59 q60 q61 q62 q63
 simp only [List.setIfInBounds_toArray,List.set_cons_succ,List.set_cons_zero]
 clear hS e60 e62 e63 hup
 obtain ⟨o1,o2,o3,o4,o5,n1,n2,n3,n4,n5,n6,n7,n8,n9,n10⟩:=HOK.out
 have HG9:=hidE (HG8.out.below hB9)
 have HG10:Hid (GS W10 p nn nr N (R++[(nr,.agg #[.int .i64 nr,.int .i64 f,.int .i64 t,.string s,.slice pa pn pc])]) F T) :=
  ⟨HG9.out.obj.keep (ho10 _ n2),HG9.out.n.block (ho10 _ n5),hmi,HG9.out.f.block (ho10 _ (Ne.symm n8)),HG9.out.t.block (ho10 _ (Ne.symm n9))⟩
 have HX10:Hid (Rec W10 X #[.int .i64 nr,.int .i64 f,.int .i64 t,.string s,.slice pa pn pc] 49):=(HR8.out.below hB9 HR8.out.lt).keep (ho10 _ (by omega))
 have HB10:Hid (Below B w W10):=(HB8.out.mono hB).trans ((hB9.mono (by have:=HB8.out.size;omega)).trans (hb10.mono o3))
 have hz10:w.heap.size≤W10.heap.size:=by have:=HB10.out.size;omega
 clear hmi ho10 hb10 hs10 hB9 HG9 HG8 HR8 HB8
 have HAT:=hidE (attach_new HG10.out B HOK.out (by omega) nr f t s pa pn pc hf ht HF.out HT.out)
 unfold GP.val at HAT
 have x0:=HX10.out.cell 0 rfl
 have x1:=HX10.out.cell 1 rfl
 have x2:=HX10.out.cell 2 rfl
 have x3:=HX10.out.cell 3 rfl
 have x4:=HX10.out.cell 4 rfl
 go_wp2_with fail
 refine HAT.out.mono ?_
 rintro e w11 ⟨rfl,fv,tv,hg11,hfr,⟨bb,hbb,htr,hfb⟩,hb11,hk11⟩
 have HX11:Hid (Rec w11 X #[.int .i64 nr,.int .i64 f,.int .i64 t,.string s,.slice pa pn pc] 49):=HX10.out.keep (hk11 _ HX10.out.lt (by omega) (by omega))
 have HG11:=hidE hg11
 have HFR:=hidE hfr
 have HTR:=hidE htr
 have HFB:=hidE hfb
 have HB11:=hidE (HB10.out.trans hb11)
 clear x0 x1 x2 x3 x4 HAT hg11 hfr htr hfb hb11 hk11 HX10 HB10 HG10
 have c3:=HG11.out.c3
 have z3:=HG11.out.obj.z 3
 have hwr:IntKind.i64.wrap (nr+1)=nr+1:=by rw [IntKind.wrap_i64];omega
 go_upto_region 13 with fail
 generalize hW12:World.setCell _ _ _=W12
 have HX12:Hid (Rec W12 X #[.int .i64 nr,.int .i64 f,.int .i64 t,.string s,.slice pa pn pc] 49):=by rw [← hW12];exact HX11.out.other (by omega)
 have HG12:Hid (GS W12 p nn (nr+1) N (R++[(nr,.agg #[.int .i64 nr,.int .i64 f,.int .i64 t,.string s,.slice pa pn pc])]) (F++[(f,fv)]) (T++[(t,tv)])):=by
  rw [← hW12]
  refine ⟨?_,HG11.out.n.block (Below.heap_setCell _ _ _ _ (Ne.symm n1)),HG11.out.r.block (Below.heap_setCell _ _ _ _ (Ne.symm n2)),HG11.out.f.block (Below.heap_setCell _ _ _ _ (Ne.symm n3)),HG11.out.t.block (Below.heap_setCell _ _ _ _ (Ne.symm n4))⟩
  have:=HG11.out.obj.set 3 (.int .i64 (nr+1))
  simpa [GP.cells] using this
 have HB12:Hid (Below B w W12):=by rw [← hW12];exact HB11.out.setCell (p:=⟨p.g,3,none⟩) o1 _
 have HFR12:Hid (W12.ownsRow w.heap.size 2 1 fv 1 [.int .i64 nr]):=by
  rw [← hW12]
  exact row_base (row_keep HFR.out fun i hi _=>Below.heap_setCell _ _ _ _ (by show i≠p.g;omega)) hz10
 have HTR12:Hid (W12.ownsRow bb 2 1 tv 1 [.int .i64 nr]):=by
  rw [← hW12]
  exact row_keep HTR.out fun i hi _=>Below.heap_setCell _ _ _ _ (by show i≠p.g;omega)
 clear hW12 c3 z3
 have x0:=HX12.out.cell 0 rfl
 go_wp2_with fail
 go_ret2
 exact ⟨rfl,pa,pn,pc,fv,tv,HG12.out,HFR12.out,⟨bb,by omega,HTR12.out,HFB.out⟩,HB12.out⟩
end Go.Proofs.YteddjlbfbpecjaaGreatDoor
