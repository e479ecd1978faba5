import Derived.Test.YteddjlbfbpecjaaGreatDoorJoin8
import Derived.Ground.SlgnProg
import Derived.Shelf.SlicesG.Delete
import Derived.Shelf.SlicesG.SearchI
import Derived.Shelf.SlicesG.CompactI
namespace Go.Proofs.YteddjlbfbpecjaaGreatDoor
set_option maxHeartbeats 8000000
set_option maxRecDepth 100000
set_option linter.all false
section
open Go.RowKit Go.Shelf
attribute [local go_sem] Oper.semAt_some
theorem Tryz.underlying72'  : Tryz.prog.underlying 72=some (.map 2 100):=by kernel_rfl
theorem Zpl (w:World):(zeroValue 100).run Tryz.prog w=.ok (.slice none 0 0) w:=by kernel_rfl
theorem Ztk {w:World} {p:GP} {nn nr:Int} {N R F T:List (Int × Value)} (h:GS w p nn nr N R F T) (B:Nat) (b5:p.Ok B) (hB:B<=w.heap.size) (id f t:Int) (s:ByteArray) (L:Option Addr) (M O:Nat) (hf:I64 f) (ht:I64 t) (hF:∀ q ∈ F,q.1≠f) (hT:∀ q ∈ T,q.1≠t) :
  Calls Tryz.prog 40 #[p.val,.agg #[.int .i64 id,.int .i64 f,.int .i64 t,.string s,.slice L M O]] w fun e w'=>e=.returned (.tuple #[])/\∃ fv tv,GS w' p nn nr N R (F++[(f,fv)]) (T++[(t,tv)])/\w'.ownsRow w.heap.size 2 1 fv 1 [.int .i64 id]/\(∃ b,w.heap.size<=b/\w'.ownsRow b 2 1 tv 1 [.int .i64 id]/\∀ q,fv.ownBlock=some q->q<b)/\Below B w w'/\(∀ i,i<w.heap.size->i≠p.f->i≠p.t->w'.heap[i]?=w.heap[i]?):=by
 have HG:=Zb h
 have d2:=Zb b5
 have HF:=Zb hF
 have HT:=Zb hT
 have b6:p.g<w.heap.size/\p.n<w.heap.size/\p.r<w.heap.size/\p.f<w.heap.size/\p.t<w.heap.size:=⟨h.obj.lt,h.n.lt,h.r.lt,h.f.lt,h.t.lt⟩
 obtain ⟨u1,u2,u3,u4,u5⟩:=b6
 clear h b5 hF hT
 unfold GP.val
 go_enter Tryz.func40,Tryz.ntmps40
 go_upto_region 1 with fail
 generalize d0:World.alloc _ _=W1
 have c9:Hid (Below w.heap.size w W1):=by rw [<- d0];exact (Below.refl _ _).alloc (Nat.le_refl _) _
 have d4:Hid (Rec W1 w.heap.size #[.int .i64 id,.int .i64 f,.int .i64 t,.string s,.slice L M O] 49):=by rw [<- d0];exact Zl _ _ _
 have e3:w.heap.size<W1.heap.size:=by rw [<- d0];simp
 have a2:=Zb (HG.out.below c9.out)
 clear d0
 show (Code.region 1 Zn5 true).wp _ _ _ _
 refine Zw1 p id f w.heap.size W1.heap.size _ _ _ rfl ⟨rfl,rfl⟩ ?_ ?_
 ·intro W d
  exact ⟨(d.cell (p:=⟨p.g,4,none⟩) a2.out.obj.lt).trans a2.out.c4,(d.cell (p:=⟨w.heap.size,1,none⟩) e3).trans (d4.out.cell 1 rfl),(d.cell (p:=⟨w.heap.size,0,none⟩) e3).trans (d4.out.cell 0 rfl),(Zmn Tryz.underlying72' Zpl (a2.out.f.below d (Nat.le_refl _)) f hf HF.out).2,d.size⟩
 rintro c W2 hS Q e7 e9 ⟨j,ua,uc,c6⟩
 obtain ⟨W3,b0,x,h0,G,H⟩:=Zhj Tryz.underlying72' (a2.out.f.below Q (Nat.le_refl _)) f (.slice ua 1 uc) hf HF.out
 refine ⟨W3,?_,?_⟩
 ·generalize c.eval=ρ at *
  clear hS x G H j
  go_simp
 rw [c6] at j
 rw [Zba hS [4,5,6,7,8,9,10,11,12,13,14,15,16,17,18,19,20] (by kernel_rfl)]
 obtain ⟨y4,q4⟩:∃ y,c.eval (.tmp 4)=y:=⟨_,rfl⟩
 obtain ⟨y5,q5⟩:∃ y,c.eval (.tmp 5)=y:=⟨_,rfl⟩
 obtain ⟨y6,q6⟩:∃ y,c.eval (.tmp 6)=y:=⟨_,rfl⟩
 obtain ⟨y7,q7⟩:∃ y,c.eval (.tmp 7)=y:=⟨_,rfl⟩
 obtain ⟨y8,q8⟩:∃ y,c.eval (.tmp 8)=y:=⟨_,rfl⟩
 obtain ⟨y9,q9⟩:∃ y,c.eval (.tmp 9)=y:=⟨_,rfl⟩
 obtain ⟨r7,g4⟩:∃ y,c.eval (.tmp 10)=y:=⟨_,rfl⟩
 obtain ⟨t9,f8⟩:∃ y,c.eval (.tmp 11)=y:=⟨_,rfl⟩
 obtain ⟨m2,a1⟩:∃ y,c.eval (.tmp 12)=y:=⟨_,rfl⟩
 obtain ⟨r5,l4⟩:∃ y,c.eval (.tmp 13)=y:=⟨_,rfl⟩
 obtain ⟨r3,i5⟩:∃ y,c.eval (.tmp 14)=y:=⟨_,rfl⟩
 obtain ⟨t5,h3⟩:∃ y,c.eval (.tmp 15)=y:=⟨_,rfl⟩
 obtain ⟨u7,l5⟩:∃ y,c.eval (.tmp 16)=y:=⟨_,rfl⟩
 obtain ⟨s9,j2⟩:∃ y,c.eval (.tmp 17)=y:=⟨_,rfl⟩
 obtain ⟨t3,j8⟩:∃ y,c.eval (.tmp 18)=y:=⟨_,rfl⟩
 obtain ⟨r0,i7⟩:∃ y,c.eval (.tmp 19)=y:=⟨_,rfl⟩
 obtain ⟨r9,j7⟩:∃ y,c.eval (.tmp 20)=y:=⟨_,rfl⟩
 simp only [List.foldl_cons,List.foldl_nil,q4,q5,q6,q7,q8,q9,g4,f8,a1,l4,i5,h3,l5,j2,j8,i7,j7]
 clear q4 q5 q6 q7 q8 q9 g4 f8 a1 l4 i5 h3 l5 j2 j8 i7 j7
 simp only [List.setIfInBounds_toArray,List.set_cons_succ,List.set_cons_zero]
 clear hS e7 e9 c6 b0
 obtain ⟨o1,o2,o3,o4,o5,n1,n2,n3,n4,n5,n6,n7,n8,n9,f3⟩:=d2.out
 have b1:=Zb (a2.out.below Q)
 have b2:Hid (GS W3 p nn nr N R (F++[(f,.slice ua 1 uc)]) T) :=
  ⟨b1.out.obj.keep (G _ n3),b1.out.n.block (G _ n6),b1.out.r.block (G _ n8),x,b1.out.t.block (G _ (Ne.symm f3))⟩
 have d3:Hid (Rec W3 w.heap.size #[.int .i64 id,.int .i64 f,.int .i64 t,.string s,.slice L M O] 49):=(d4.out.below Q e3).keep (G _ (by omega))
 have j4:Hid (W3.ownsRow W1.heap.size 2 1 (.slice ua 1 uc) 1 [.int .i64 id]):=Jf j fun g hg _=>G g (by omega)
 have o7:W1.heap.size<=W3.heap.size:=by rw [h0];exact Q.size
 have n0:Hid (∀ i,i<w.heap.size->i≠p.f->W3.heap[i]?=w.heap[i]?):=fun i hi h1=>(G i h1).trans ((Q.block i (by omega)).trans (c9.out.block i hi))
 have I:Hid (Below B w W3):=(c9.out.mono hB).trans ((Q.mono (by omega)).trans (H.mono o4))
 clear x G H h0 Q b1 j a2 c9 d4
 go_upto_region 2 with fail
 show (Code.region 2 Zn6 true).wp _ _ _ _
 refine Zw3 p id t w.heap.size W3.heap.size _ _ _ rfl ⟨rfl,rfl⟩ ?_ ?_
 ·intro W d
  exact ⟨(d.cell (p:=⟨p.g,5,none⟩) b2.out.obj.lt).trans b2.out.c5,(d.cell (p:=⟨w.heap.size,2,none⟩) d3.out.lt).trans (d3.out.cell 2 rfl),(d.cell (p:=⟨w.heap.size,0,none⟩) d3.out.lt).trans (d3.out.cell 0 rfl),(Zmn Tryz.underlying72' Zpl (b2.out.t.below d (Nat.le_refl _)) t ht HT.out).2,d.size⟩
 rintro c W4 hS a0 e7 e9 ⟨j,va,vc,c6⟩
 obtain ⟨W5,b0,x,m5,E,D⟩:=Zhj Tryz.underlying72' (b2.out.t.below a0 (Nat.le_refl _)) t (.slice va 1 vc) ht HT.out
 refine ⟨W5,?_,?_⟩
 ·generalize c.eval=ρ at *
  clear hS x E D j
  go_simp
 rw [c6] at j
 rw [Zba hS [21,22,23,24,25,26,27,28,29,30,31,32,33,34,35,36,37] (by kernel_rfl)]
 obtain ⟨t1,g5⟩:∃ y,c.eval (.tmp 21)=y:=⟨_,rfl⟩
 obtain ⟨u0,k2⟩:∃ y,c.eval (.tmp 22)=y:=⟨_,rfl⟩
 obtain ⟨u8,i3⟩:∃ y,c.eval (.tmp 23)=y:=⟨_,rfl⟩
 obtain ⟨p9,g0⟩:∃ y,c.eval (.tmp 24)=y:=⟨_,rfl⟩
 obtain ⟨p4,k5⟩:∃ y,c.eval (.tmp 25)=y:=⟨_,rfl⟩
 obtain ⟨s1,i9⟩:∃ y,c.eval (.tmp 26)=y:=⟨_,rfl⟩
 obtain ⟨r1,l1⟩:∃ y,c.eval (.tmp 27)=y:=⟨_,rfl⟩
 obtain ⟨q0,h7⟩:∃ y,c.eval (.tmp 28)=y:=⟨_,rfl⟩
 obtain ⟨p5,g7⟩:∃ y,c.eval (.tmp 29)=y:=⟨_,rfl⟩
 obtain ⟨s8,g6⟩:∃ y,c.eval (.tmp 30)=y:=⟨_,rfl⟩
 obtain ⟨p7,k4⟩:∃ y,c.eval (.tmp 31)=y:=⟨_,rfl⟩
 obtain ⟨q2,f9⟩:∃ y,c.eval (.tmp 32)=y:=⟨_,rfl⟩
 obtain ⟨u6,l2⟩:∃ y,c.eval (.tmp 33)=y:=⟨_,rfl⟩
 obtain ⟨p2,i2⟩:∃ y,c.eval (.tmp 34)=y:=⟨_,rfl⟩
 obtain ⟨q3,h6⟩:∃ y,c.eval (.tmp 35)=y:=⟨_,rfl⟩
 obtain ⟨r6,k6⟩:∃ y,c.eval (.tmp 36)=y:=⟨_,rfl⟩
 obtain ⟨s6,g1⟩:∃ y,c.eval (.tmp 37)=y:=⟨_,rfl⟩
 simp only [List.foldl_cons,List.foldl_nil,g5,k2,i3,g0,k5,i9,l1,h7,g7,g6,k4,f9,l2,i2,h6,k6,g1]
 clear g5 k2 i3 g0 k5 i9 l1 h7 g7 g6 k4 f9 l2 i2 h6 k6 g1
 simp only [List.setIfInBounds_toArray,List.set_cons_succ,List.set_cons_zero]
 clear hS e7 e9 c6 b0
 have a3:=Zb (b2.out.below a0)
 have c8:Hid (GS W5 p nn nr N R (F++[(f,.slice ua 1 uc)]) (T++[(t,.slice va 1 vc)])) :=
  ⟨a3.out.obj.keep (E _ n4),a3.out.n.block (E _ n7),a3.out.r.block (E _ n9),a3.out.f.block (E _ f3),x⟩
 have o0:Hid (W5.ownsRow w.heap.size 2 1 (.slice ua 1 uc) 1 [.int .i64 id]):=Zeq (Jf j4.out fun g hg hl=>(E g (by omega)).trans (a0.block g hl)) (by omega)
 have m6:Hid (W5.ownsRow W3.heap.size 2 1 (.slice va 1 vc) 1 [.int .i64 id]):=Jf j fun g hg _=>E g (by omega)
 have HQ:Hid (∀ q,(Value.slice ua 1 uc).ownBlock=some q->q<W3.heap.size):=fun q hq=>(j4.out.lt q hq).2
 have P:Hid (Below B w W5):=I.out.trans ((a0.mono (by omega)).trans (D.mono o5))
 have m1:Hid (∀ i,i<w.heap.size->i≠p.f->i≠p.t->W5.heap[i]?=w.heap[i]?):=fun i hi h1 h2=>(E i h2).trans ((a0.block i (by omega)).trans (n0.out i hi h1))
 clear x E D m5 a0 a3 j
 go_wp2_with fail
 exact bodyPost_end (v:=.tuple #[]) (by simp [results,Tryz.results40,go_sem]) rfl ⟨rfl,_,_,c8.out,o0.out,⟨W3.heap.size,by omega,m6.out,HQ.out⟩,P.out,m1.out⟩
theorem Zew {w:World} {p:GP} {nn nr:Int} {N R F T:List (Int × Value)} (h:GS w p nn nr N R F T) (hN:Zhn N) (hR:Zhn R) (hn:∀ q ∈ N,Zg0 q.2) (hr:∀ q ∈ R,Zub q.2) (k:Int) (hk:I64 k) (b:Bool) (hb:Zd8 k N=b) :
  Calls Tryz.prog 91 #[.pointer (some ⟨p.g,0,none⟩),.bool false,.int .i64 k] w fun e w'=>e=.returned (.bool b)/\Below w.heap.size w w':=by
 have:=Zw9 h hN hR hn hr false k hk
 simpa [hb,GP.val] using this
theorem Zpm {w:World} {p:GP} {nn nr:Int} {N R F T:List (Int × Value)} (h:GS w p nn nr N R F T) (hN:Zhn N) (hR:Zhn R) (hn:∀ q ∈ N,Zg0 q.2) (hr:∀ q ∈ R,Zub q.2) (f t:Int) (s:ByteArray) (pv:Value) (f1:∃ a n c,pv=.slice a n c) (hf:I64 f) (ht:I64 t) (c7:Zd8 f N=true) (a6:Zd8 t N=false)
  (ha:∀ W,Below w.heap.size w W->Calls Tryz.prog 90 #[.string s] W fun e w'=>e=.returned (.bool true)/\Below W.heap.size W w')
  (hs:∀ W,Below w.heap.size w W->Calls Tryz.prog 86 #[pv] W fun e w'=>e=.returned (.bool true)/\Below W.heap.size W w') :
  Calls Tryz.prog 32 #[p.val,.int .i64 f,.int .i64 t,.string s,pv] w fun e w'=>e=.returned (.tuple #[.int .i64 0,.int .i64 5])/\Below w.heap.size w w':=by
 obtain ⟨qa,qn,qc,rfl⟩:=f1
 have a4:Hid (∀ W,Below w.heap.size w W->Calls Tryz.prog 91 #[.pointer (some ⟨p.g,0,none⟩),.bool false,.int .i64 f] W fun e w'=>e=.returned (.bool true)/\Below W.heap.size W w'):=fun W d=>Zew (h.below d) hN hR hn hr f hf true c7
 have b8:Hid (∀ W,Below w.heap.size w W->Calls Tryz.prog 91 #[.pointer (some ⟨p.g,0,none⟩),.bool false,.int .i64 t] W fun e w'=>e=.returned (.bool false)/\Below W.heap.size W w'):=fun W d=>Zew (h.below d) hN hR hn hr t ht false a6
 have S:=Zb (Zcw h)
 have HA:=Zb ha
 have HS:=Zb hs
 clear h hN hR hn hr ha hs hf ht c7 a6
 unfold GP.val at S |-
 go_enter Tryz.func32,Tryz.ntmps32
 go_wp2_with fail
 refine S.out.mono ?_
 rintro e w1 ⟨rfl,b7⟩
 rw [b7]
 clear b7 S
 go_wp2_with fail
 refine (HA.out w (Below.refl _ _)).mono ?_
 rintro e w2 ⟨rfl,a5⟩
 have U:=Zb a5
 clear a5 HA
 go_wp2_with fail
 refine (HS.out w2 U.out).mono ?_
 rintro e w3 ⟨rfl,H⟩
 have I:=Zb (Za U.out H)
 clear H HS U
 go_wp2_with fail
 refine (a4.out w3 I.out).mono ?_
 rintro e w4 ⟨rfl,c2⟩
 have V:=Zb (Za I.out c2)
 clear c2 a4 I
 go_wp2_with fail
 refine (b8.out w4 V.out).mono ?_
 rintro e w5 ⟨rfl,D⟩
 have P:=Zb (Za V.out D)
 clear D b8 V
 go_wp2_with fail
 go_ret2
 exact ⟨rfl,P.out⟩
theorem Zwx {w:World} {p:GP} {nn nr:Int} {N R F T:List (Int × Value)} (h:GS w p nn nr N R F T) (B:Nat) (b5:p.Ok B) (hB:B<=w.heap.size) (hN:Zhn N) (hR:Zhn R) (hn:∀ q ∈ N,Zg0 q.2) (hr:∀ q ∈ R,Zub q.2) (f t:Int) (s:ByteArray) (pv:Value) (K:World->Value->Prop) (f1:∃ a n c,pv=.slice a n c) (hf:I64 f) (ht:I64 t) (c7:Zd8 f N=true) (a6:Zd8 t N=true)
  (ha:∀ W,Below w.heap.size w W->Calls Tryz.prog 90 #[.string s] W fun e w'=>e=.returned (.bool true)/\Below W.heap.size W w')
  (hs:∀ W,Below w.heap.size w W->Calls Tryz.prog 86 #[pv] W fun e w'=>e=.returned (.bool true)/\Below W.heap.size W w')
  (hk:∀ W,Below w.heap.size w W->Calls Tryz.prog 88 #[pv] W fun e w'=>∃ a n c,e=.returned (.slice a n c)/\K w' (.slice a n c)/\Below W.heap.size W w')
  (l9:I64 nr) (j3:nr<4611686018427387904) (o8:0<=nr) (d7:∀ q ∈ R,q.1≠nr) (hF:∀ q ∈ F,q.1≠f) (hT:∀ q ∈ T,q.1≠t) (m9:N.length+R.length<65536) :
  Calls Tryz.prog 32 #[p.val,.int .i64 f,.int .i64 t,.string s,pv] w fun e w'=>e=.returned (.tuple #[.int .i64 nr,.int .i64 0])/\∃ L M O fv tv,GS w' p nn (nr+1) N (R++[(nr,.agg #[.int .i64 nr,.int .i64 f,.int .i64 t,.string s,.slice L M O])]) (F++[(f,fv)]) (T++[(t,tv)])/\w'.ownsRow w.heap.size 2 1 fv 1 [.int .i64 nr]/\(∃ b,w.heap.size<=b/\w'.ownsRow b 2 1 tv 1 [.int .i64 nr]/\∀ q,fv.ownBlock=some q->q<b)/\Below B w w':=by
 obtain ⟨qa,qn,qc,rfl⟩:=f1
 have HG:=Zb h
 have a4:Hid (∀ W,Below w.heap.size w W->Calls Tryz.prog 91 #[.pointer (some ⟨p.g,0,none⟩),.bool false,.int .i64 f] W fun e w'=>e=.returned (.bool true)/\Below W.heap.size W w'):=fun W d=>Zew (h.below d) hN hR hn hr f hf true c7
 have b8:Hid (∀ W,Below w.heap.size w W->Calls Tryz.prog 91 #[.pointer (some ⟨p.g,0,none⟩),.bool false,.int .i64 t] W fun e w'=>e=.returned (.bool true)/\Below W.heap.size W w'):=fun W d=>Zew (h.below d) hN hR hn hr t ht true a6
 have S:=Zb (Zcw h)
 have HA:=Zb ha
 have HS:=Zb hs
 have HK:=Zb hk
 have d2:=Zb b5
 have j9:=Zb d7
 have HF:=Zb hF
 have HT:=Zb hT
 have b6:p.g<w.heap.size/\p.n<w.heap.size/\p.r<w.heap.size/\p.f<w.heap.size/\p.t<w.heap.size:=⟨h.obj.lt,h.n.lt,h.r.lt,h.f.lt,h.t.lt⟩
 obtain ⟨u1,u2,u3,u4,u5⟩:=b6
 clear h hN hR hn hr ha hs c7 a6 hk b5 d7 hF hT
 unfold GP.val at S |-
 go_enter Tryz.func32,Tryz.ntmps32
 go_wp2_with fail
 refine S.out.mono ?_
 rintro e w1 ⟨rfl,b7⟩
 rw [b7]
 clear b7 S
 go_wp2_with fail
 refine (HA.out w (Below.refl _ _)).mono ?_
 rintro e w2 ⟨rfl,a5⟩
 have U:=Zb a5
 clear a5 HA
 go_wp2_with fail
 refine (HS.out w2 U.out).mono ?_
 rintro e w3 ⟨rfl,H⟩
 have I:=Zb (Za U.out H)
 clear H HS U
 go_wp2_with fail
 refine (a4.out w3 I.out).mono ?_
 rintro e w4 ⟨rfl,c2⟩
 have V:=Zb (Za I.out c2)
 clear c2 a4 I
 go_wp2_with fail
 refine (b8.out w4 V.out).mono ?_
 rintro e w5 ⟨rfl,D⟩
 have P:=Zb (Za V.out D)
 clear D b8 V
 have c8:=Zb (HG.out.below P.out)
 have e4:=Zb (Zqr c8.out m9 nr j3)
 unfold GP.val at e4
 have c3:=c8.out.c3
 go_wp2_with fail
 refine e4.out.mono ?_
 rintro e w6 ⟨rfl,j0⟩
 have Y:=Zb (Za P.out j0)
 have e5:=Zb (HG.out.below Y.out)
 clear j0 c3 e4 c8 P
 go_upto_region 9 with fail
 show (Code.region 9 Zj2 true).wp _ _ _ _
 refine Zwz p nr f t s (.slice qa qn qc) w6.heap.size K _ _ _ rfl ⟨rfl,rfl,rfl,rfl,rfl⟩ ?_ ?_
 ·intro W d
  exact ⟨(d.cell (p:=⟨p.g,3,none⟩) e5.out.obj.lt).trans e5.out.c3,d.size,HK.out W (Za Y.out d)⟩
 rintro c W7 hS l6 ⟨L,M,O,e6,_⟩ ⟨X,f0,hX,j6⟩
 obtain ⟨W8,d6,c0⟩:=Jcg c.eval X W7 _ _ _ _ _ nr f t s L M O j6 f0 e6
 refine ⟨W8,d6,?_⟩
 clear d6
 rw [Zba hS [45,46,47,48,49,50,51,52,53,54,55,12] (by kernel_rfl)]
 obtain ⟨p1,k7⟩:∃ y,c.eval (.tmp 45)=y:=⟨_,rfl⟩
 obtain ⟨o9,g3⟩:∃ y,c.eval (.tmp 46)=y:=⟨_,rfl⟩
 obtain ⟨r8,h4⟩:∃ y,c.eval (.tmp 47)=y:=⟨_,rfl⟩
 obtain ⟨r4,j5⟩:∃ y,c.eval (.tmp 48)=y:=⟨_,rfl⟩
 obtain ⟨t4,i4⟩:∃ y,c.eval (.tmp 49)=y:=⟨_,rfl⟩
 obtain ⟨s2,g9⟩:∃ y,c.eval (.tmp 50)=y:=⟨_,rfl⟩
 obtain ⟨q1,i0⟩:∃ y,c.eval (.tmp 51)=y:=⟨_,rfl⟩
 obtain ⟨p3,g8⟩:∃ y,c.eval (.tmp 52)=y:=⟨_,rfl⟩
 obtain ⟨p8,f5⟩:∃ y,c.eval (.tmp 53)=y:=⟨_,rfl⟩
 obtain ⟨t2,k9⟩:∃ y,c.eval (.tmp 54)=y:=⟨_,rfl⟩
 obtain ⟨s5,f2⟩:∃ y,c.eval (.tmp 55)=y:=⟨_,rfl⟩
 obtain ⟨m2,a1⟩:∃ y,c.eval (.tmp 12)=y:=⟨_,rfl⟩
 simp only [List.foldl_cons,List.foldl_nil,k7,g3,h4,j5,i4,g9,i0,g8,f5,k9,f2,a1]
 rw [f0] at a1
 rw [e6] at f2
 subst a1 f2
 clear k7 g3 h4 j5 i4 g9 i0 g8 f5 k9
 simp only [List.setIfInBounds_toArray,List.set_cons_succ,List.set_cons_zero]
 clear f0 e6 hS
 have d1:Hid (Below w.heap.size w W8):=(Y.out.trans (l6.mono Y.out.size)).trans (c0.below.mono (Nat.le_trans Y.out.size hX))
 have b9:Hid (GS W8 p nn nr N R F T):=HG.out.below d1.out
 have l:=Zb c0.r
 have t8:w.heap.size<=X:=Nat.le_trans Y.out.size hX
 clear c0 j6 l6 hX Y e5 HK
 go_upto_region 10 with fail
 show (Code.region 10 Zl2 true).wp _ _ _ _
 refine Ztm p nr f t s X L M O _ _ _ rfl ⟨rfl,rfl⟩ ?_ ?_
 ·intro W d
  exact ⟨(d.cell (p:=⟨p.g,1,none⟩) b9.out.obj.lt).trans b9.out.c1,(d.cell (p:=⟨X,0,none⟩) l.out.lt).trans (l.out.cell 0 rfl),(d.cell (p:=⟨X,1,none⟩) l.out.lt).trans (l.out.cell 1 rfl),(d.cell (p:=⟨X,2,none⟩) l.out.lt).trans (l.out.cell 2 rfl),(d.cell (p:=⟨X,3,none⟩) l.out.lt).trans (l.out.cell 3 rfl),(d.cell (p:=⟨X,4,none⟩) l.out.lt).trans (l.out.cell 4 rfl)⟩
 intro c W9 hS b4 m3 m8 m4
 obtain ⟨a7,b0,x,l7,u,b3⟩:=Zhj Tryz.underlying69' (b9.out.r.below b4 (Nat.le_refl _)) nr (.agg #[.int .i64 nr,.int .i64 f,.int .i64 t,.string s,.slice L M O]) l9 j9.out
 refine ⟨a7,?_,?_⟩
 ·generalize c.eval=ρ at *
  clear hS x u b3
  go_simp
 rw [Zba hS [56,57,58,59,60,61,62,63] (by kernel_rfl)]
 obtain ⟨r2,f6⟩:∃ y,c.eval (.tmp 56)=y:=⟨_,rfl⟩
 obtain ⟨s4,f4⟩:∃ y,c.eval (.tmp 57)=y:=⟨_,rfl⟩
 obtain ⟨t7,l0⟩:∃ y,c.eval (.tmp 58)=y:=⟨_,rfl⟩
 obtain ⟨p0,h9⟩:∃ y,c.eval (.tmp 59)=y:=⟨_,rfl⟩
 obtain ⟨s0,i8⟩:∃ y,c.eval (.tmp 60)=y:=⟨_,rfl⟩
 obtain ⟨t6,k0⟩:∃ y,c.eval (.tmp 61)=y:=⟨_,rfl⟩
 obtain ⟨s3,k8⟩:∃ y,c.eval (.tmp 62)=y:=⟨_,rfl⟩
 obtain ⟨t0,k1⟩:∃ y,c.eval (.tmp 63)=y:=⟨_,rfl⟩
 simp only [List.foldl_cons,List.foldl_nil,f6,f4,l0,h9,i8,k0,k8,k1]
 clear f6 f4 l0 h9 i8 k0 k8 k1
 simp only [List.setIfInBounds_toArray,List.set_cons_succ,List.set_cons_zero]
 clear hS m3 m8 m4 b0
 obtain ⟨o1,o2,o3,o4,o5,n1,n2,n3,n4,n5,n6,n7,n8,n9,f3⟩:=d2.out
 have a8:=Zb (b9.out.below b4)
 have d9:Hid (GS a7 p nn nr N (R++[(nr,.agg #[.int .i64 nr,.int .i64 f,.int .i64 t,.string s,.slice L M O])]) F T) :=
  ⟨a8.out.obj.keep (u _ n2),a8.out.n.block (u _ n5),x,a8.out.f.block (u _ (Ne.symm n8)),a8.out.t.block (u _ (Ne.symm n9))⟩
 have m:Hid (Rec a7 X #[.int .i64 nr,.int .i64 f,.int .i64 t,.string s,.slice L M O] 49):=(l.out.below b4 l.out.lt).keep (u _ (by omega))
 have a9:Hid (Below B w a7):=(d1.out.mono hB).trans ((b4.mono (by have:=d1.out.size;omega)).trans (b3.mono o3))
 have h5:w.heap.size<=a7.heap.size:=by have:=a9.out.size;omega
 clear x u b3 l7 b4 a8 b9 l d1
 have e1:=Zb (Ztk d9.out B d2.out (by omega) nr f t s L M O hf ht HF.out HT.out)
 unfold GP.val at e1
 have x0:=m.out.cell 0 rfl
 have x1:=m.out.cell 1 rfl
 have x2:=m.out.cell 2 rfl
 have x3:=m.out.cell 3 rfl
 have x4:=m.out.cell 4 rfl
 go_wp2_with fail
 refine e1.out.mono ?_
 rintro e m0 ⟨rfl,fv,tv,d8,i1,⟨bb,p6,g2,l3⟩,d5,e0⟩
 have i6:Hid (Rec m0 X #[.int .i64 nr,.int .i64 f,.int .i64 t,.string s,.slice L M O] 49):=m.out.keep (e0 _ m.out.lt (by omega) (by omega))
 have o:=Zb d8
 have l8:=Zb i1
 have o6:=Zb g2
 have m7:=Zb l3
 have k3:=Zb (a9.out.trans d5)
 clear x0 x1 x2 x3 x4 e1 d8 i1 g2 l3 d5 e0 m a9 d9
 have c3:=o.out.c3
 have z3:=o.out.obj.z 3
 have s7:IntKind.i64.wrap (nr+1)=nr+1:=by rw [IntKind.wrap_i64];omega
 go_upto_region 13 with fail
 generalize C:World.setCell _ _ _=W12
 have j1:Hid (Rec W12 X #[.int .i64 nr,.int .i64 f,.int .i64 t,.string s,.slice L M O] 49):=by rw [<- C];exact i6.out.other (by omega)
 have h8:Hid (GS W12 p nn (nr+1) N (R++[(nr,.agg #[.int .i64 nr,.int .i64 f,.int .i64 t,.string s,.slice L M O])]) (F++[(f,fv)]) (T++[(t,tv)])):=by
  rw [<- C]
  refine ⟨?_,o.out.n.block (Below.heap_setCell _ _ _ _ (Ne.symm n1)),o.out.r.block (Below.heap_setCell _ _ _ _ (Ne.symm n2)),o.out.f.block (Below.heap_setCell _ _ _ _ (Ne.symm n3)),o.out.t.block (Below.heap_setCell _ _ _ _ (Ne.symm n4))⟩
  have:=o.out.obj.set 3 (.int .i64 (nr+1))
  simpa [GP.cells] using this
 have f7:Hid (Below B w W12):=by rw [<- C];exact k3.out.setCell (p:=⟨p.g,3,none⟩) o1 _
 have e8:Hid (W12.ownsRow w.heap.size 2 1 fv 1 [.int .i64 nr]):=by
  rw [<- C]
  exact Zeq (Jf l8.out fun i hi _=>Below.heap_setCell _ _ _ _ (by show i≠p.g;omega)) h5
 have e2:Hid (W12.ownsRow bb 2 1 tv 1 [.int .i64 nr]):=by
  rw [<- C]
  exact Jf o6.out fun i hi _=>Below.heap_setCell _ _ _ _ (by show i≠p.g;omega)
 clear C c3 z3
 have x0:=j1.out.cell 0 rfl
 go_wp2_with fail
 go_ret2
 exact ⟨rfl,L,M,O,fv,tv,h8.out,e8.out,⟨bb,by omega,e2.out,m7.out⟩,f7.out⟩
end
section
open Go.RowKit
variable {P:Program} {ops:Array Oper} {Q:Exit->Act->World->Prop}
theorem Zps {base a:Act} (h:Zaf ops base a) {k:Nat} (hk:k<ops.size) (v:Value):Zaf ops base (a.put (Zv ops k) v):=by
 obtain ⟨h1,h2,h3⟩:=h
 cases m:Zv ops k with
 | none=>exact ⟨by simpa [Act.put] using h1,by simpa [Act.put] using h2,fun t O=>by simpa [Act.put] using h3 t O⟩
 | some d=>exact ⟨by simpa [Act.put] using h1,by simpa [Act.put] using h2,fun t O=>by
   have y:d≠t:=fun e=>O k hk (by rw [m,e])
   simpa [Act.put,Array.getElem?_setIfInBounds_ne y] using h3 t O⟩
theorem Zjc {A:Nat->List Nat} {F:Nat->Value->World->Prop} {base:Act} {r:World} {id:Nat} (k:Nat) (hk:k+1=ops.size)
  (hm:P.follows .mixedOrders=true) (g:Zge ops base.tmps.size A=true) (H:∀ i,i<k->∃ d,Zv ops i=some d) (K:∀ i,i<k->i ∈ A k)
  (x:∀ i v w w',F i v w->Below w.heap.size w w'->F i v w')
  (W:∀ i,i<k->∀ a w,Zaf ops base a->Below r.heap.size r w->(∀ j ∈ A i,F j (val ops a j) w)->Zbp P ops Q F i a w)
  (p:∀ a w,Zaf ops base a->Below r.heap.size r w->(∀ i,i<k->F i (val ops a i) w)->wpOp P ops Q k (fun u w'=>(∃ v,u=a.put (Zv ops k) v)/\Q .normal u w') a w) :
  (Code.region id ops true).wp P Q base r:=by
 refine Zfr (A:=A) (G:=fun _ _=>True) (S:=fun l vs w=>(l k=false->Below r.heap.size r w/\∀ i,l i=true->i<ops.size->F i (vs i) w)/\(l k=true->∀ b,Zaf ops base b->(∀ i,i<ops.size->val ops b i=vs i)->Q .normal b w)) hm g ⟨fun _=>⟨(Below.refl _ _).drew,fun i h=>(by cases h)⟩,fun h=>(by cases h)⟩ ?_ ?_
 ·rintro i B l a w C s a5 hA ⟨a0,hK⟩
  have E:l k=false:=by
   cases h:l k with
   | false=>rfl
   | true =>
    by_cases e:i=k
    ·rw [e,h] at s;cases s
    ·have:=a5 k h i (K i (by omega));rw [s] at this;cases this
  obtain ⟨M,N⟩:=a0 E
  by_cases e:i=k
  ·subst e
   refine wpOp_mono ?_ (p a w C M fun j c=>N j (hA j (K j c)).1 (by omega))
   rintro u w' ⟨⟨v,rfl⟩,R⟩
   refine ⟨v,rfl,trivial,fun h=>?_,fun _ b Y T=>?_⟩
   ·rw [Zb4] at h;cases h
   ·have:b=a.put (Zv ops i) v:=Zqb Y (Zps C B v) fun j c=>by
     rw [T j c]
     by_cases ej:j=i
     ·subst ej;rw [Zb4]
     ·rw [Zat _ _ ej]
      unfold val
      cases hsj:Zv ops j with
      | none=>rfl
      | some d =>
       cases hsi:Zv ops i with
       | none=>simp [Act.put]
       | some d' =>
        have y:d'≠d:=fun e=>by
         obtain ⟨o,_,m,_,_,z,_⟩:=Zd3 g i B
         obtain ⟨o',_,U,_,_,V,_⟩:=Zd3 g j c
         rcases Nat.lt_or_gt_of_ne ej with h | h
         ·exact z j d' h (m▸hsi) (by rw [hsj,e])
         ·exact V i d h (U▸hsj) (by rw [hsi,e])
        simp [Act.put,Act.eval,Array.getD_eq_getD_getElem?,Array.getElem?_setIfInBounds_ne y]
    rw [this];exact R
  ·have D:i<k:=by omega
   have q:∀ j ∈ A i,j<ops.size:=by
    have key:∀ n i,i<n->i<ops.size->∀ j ∈ A i,j<ops.size:=by
     intro n
     induction n with
     | zero=>intro i h;omega
     | succ n ih =>
      intro i h B j c
      obtain ⟨o,_,_,_,q,_,a3⟩:=Zd3 g i B
      obtain ⟨e,he,z,X⟩:=a3 j c
      have h1:=q e he z
      rcases X with rfl | h2
      ·omega
      ·exact ih e.on (by omega) (by omega) j h2
    exact key (i+1) i (by omega) B
   refine wpOp_mono ?_ (W i D a w C M (fun j c=>N j (hA j c).1 (q j c)))
   rintro u w' ⟨v,rfl,a1,z⟩
   obtain ⟨d,hd⟩:=H i D
   obtain ⟨o,L,m,a2,_,_,_⟩:=Zd3 g i B
   have a4:d<a.tmps.size:=by rw [C.2.1];exact a2 d (m▸hd)
   have T:=Zma L (m▸hd:o.dst=some d) a4 v
   refine ⟨v,rfl,trivial,fun h=>⟨M.trans (z.mono M.size),fun j c a6=>?_⟩,fun h=>?_⟩
   ·by_cases ej:j=i
    ·subst ej;rw [Zb4,T];exact a1
    ·rw [Zat _ _ ej] at c |-
     exact x _ _ _ _ (N j c a6) z
   ·rw [Zat _ _ (Ne.symm e),E] at h;cases h
 ·rintro l a w C I ⟨N,hK⟩
  exact hK (I k (by omega)).1 a C fun _ _=>rfl
theorem Zn9 {k:Nat} {o:Oper} {a:Act} {w:World} {f:FuncId} {args:Array Value} (L:ops[k]?=some o) (hw:Region.wanted o (yielded ops a.tmps)=true)
  (hr:(execOp a.eval o).run P w=.ok (.enter f args) w) (hc:Calls P f args w fun e w'=>∃ v,e=.returned v/\Q .normal (a.put (Zv ops k) v) w'):wpOp P ops Q k (fun u w'=>(∃ v,u=a.put (Zv ops k) v)/\Q .normal u w') a w:=by
 unfold wpOp
 simp only [L,hw,if_true]
 refine .inl ?_
 unfold Oper.wp
 rw [hr,Oper.upon_enter]
 refine hc.mono ?_
 rintro e w' ⟨v,rfl,R⟩
 have m:Zv ops k=o.dst:=by simp [Zv,L]
 rw [m] at R |-
 exact ⟨⟨v,rfl⟩,R⟩
end
section
open Go.Shelf
def Tryz.laysDel_ren  : Go.Shelf.Ren:=⟨fun | 45=>180 | n=>n,fun | 22=>100 | 23=>2 | 3=>3 | 4=>4 | 0=>0 | n=>n,fun | n=>n⟩
theorem Tryz.laysDel  : Go.Proofs.SlLaysN.n45 Tryz.prog Tryz.laysDel_ren:={
 mixed:=by kernel_rfl
 f45:=⟨Tryz.f180.name,by decide,Tryz.func180.trans (congrArg some (by kernel_rfl))⟩
 t0:=Tryz.underlying0
 a0:=Tryz.isAgg0
 z0:=Tryz.sizeOf0
 v0:=Tryz.zeroValue0
 t3:=Tryz.underlying3
 a3:=Tryz.isAgg3
 z3:=Tryz.sizeOf3
 v3:=Tryz.zeroValue3
 t4:=Tryz.underlying4
 a4:=Tryz.isAgg4
 z4:=Tryz.sizeOf4
 v4:=Tryz.zeroValue4
 t22:=Tryz.underlying100
 a22:=Tryz.isAgg100
 z22:=Tryz.sizeOf100
 v22:=Tryz.zeroValue100
 t23:=Tryz.underlying2
 a23:=Tryz.isAgg2
 z23:=Tryz.sizeOf2
 v23:=Tryz.zeroValue2
 i23:=by kernel_rfl }
def Tryz.laysFind_ren  : Go.Shelf.Ren:=⟨fun | 49=>179 | 59=>199 | 60=>220 | 68=>235 | n=>n,fun | 22=>100 | 23=>2 | 3=>3 | 4=>4 | 51=>200 | 0=>0 | n=>n,fun | n=>n⟩
theorem Tryz.laysFind  : Go.Proofs.SlLaysN.n49 Tryz.prog Tryz.laysFind_ren:={
 mixed:=by kernel_rfl
 f49:=⟨Tryz.f179.name,by decide,Tryz.func179.trans (congrArg some (by kernel_rfl))⟩
 f59:=⟨Tryz.f199.name,by decide,Tryz.func199.trans (congrArg some (by kernel_rfl))⟩
 f60:=⟨Tryz.f220.name,by decide,Tryz.func220.trans (congrArg some (by kernel_rfl))⟩
 f68:=⟨Tryz.f235.name,by decide,Tryz.func235.trans (congrArg some (by kernel_rfl))⟩
 t0:=Tryz.underlying0
 a0:=Tryz.isAgg0
 z0:=Tryz.sizeOf0
 v0:=Tryz.zeroValue0
 t3:=Tryz.underlying3
 a3:=Tryz.isAgg3
 z3:=Tryz.sizeOf3
 v3:=Tryz.zeroValue3
 t4:=Tryz.underlying4
 a4:=Tryz.isAgg4
 z4:=Tryz.sizeOf4
 v4:=Tryz.zeroValue4
 t22:=Tryz.underlying100
 a22:=Tryz.isAgg100
 z22:=Tryz.sizeOf100
 v22:=Tryz.zeroValue100
 t23:=Tryz.underlying2
 a23:=Tryz.isAgg2
 z23:=Tryz.sizeOf2
 v23:=Tryz.zeroValue2
 t51:=Tryz.underlying200
 a51:=Tryz.isAgg200
 z51:=Tryz.sizeOf200
 v51:=Tryz.zeroValue200 }
open Go.Sort Go.RowKit in
theorem Tryz.slices_Delete_int (d off cap i j:Nat) (a:List Int) (w:World) (r:Holds (Value.int .i64) w d off a.toArray) (g:a.length<=cap) (p:cap<=9223372036854775807) (h:i<=j) (o:j<=a.length) :
  Calls Tryz.prog 180 #[.slice (some ⟨d,off,none⟩) a.length cap,.int .i64 i,.int .i64 j] w fun e w'=>e=.returned (.slice (some ⟨d,off,none⟩) (a.length - (j - i)) cap)/\∃ q,w'=putRow (Value.int .i64) (Sort.ahead w q) d off (a.take i++a.drop j++List.replicate (j - i) 0).toArray:=AnyG.slices_Delete_int Tryz.laysDel d off cap i j a w r g p h o
open Go.Sort Go.RowKit in
theorem Tryz.slices_BinarySearch_int (b off n c:Nat) (a:List Int) (x:Int) (w:World) (l:n<=a.length) (f:n<4611686018427387904) (m:∀ j,j<a.length->w.cell? ⟨b,off+j,none⟩=some (.int .i64 (a.getD j 0))) (k:(a.take n).Pairwise (·<=·)) :
  Calls Tryz.prog 179 #[.slice (some ⟨b,off,none⟩) n c,.int .i64 x] w fun e w'=>e=.returned (.tuple #[.int .i64 ((a.take n).countP (·<x):Nat),.bool ((a.take n).contains x)])/\∃ q,w'=w.drewN q:=AnyG.slices_BinarySearch_int Tryz.laysFind b off n c a x w l f m k
end
section
open Go.RowKit Go.Shelf Go.WideShapes
attribute [local go_sem] Oper.semAt_some
noncomputable def Zza  : Array Oper:=Zy Tryz.f92 1
def Jia  : List Sig:=[⟨4,.move (.tmp 0),31,none⟩,⟨5,.nilCheck (.tmp 4),0,none⟩,⟨6,.fieldAddr 74 (.tmp 5) 1,0,none⟩,⟨7,.load 72 (.tmp 6),72,none⟩,⟨8,.fieldAddr 49 (.tmp 3) 1,0,none⟩,⟨9,.load 2 (.tmp 8),2,none⟩,⟨10,.fieldAddr 49 (.tmp 3) 0,0,none⟩,⟨11,.load 2 (.tmp 10),2,none⟩]
theorem Jek  : (Jh Zza).take Jia.length=Jia.map some:=by kernel_rfl
def Zqj (i:Nat):List Nat:=nth [] [[],[0],[0,1],[0,1,2],[],[4],[],[6],[0,1,2,3,4,5,6,7]] i
def Zc7 (p:GP) (id k:Int) (X:Nat):List (Value->World->Prop) :=
 [eqv (.pointer (some ⟨p.g,0,none⟩)),eqv (.pointer (some ⟨p.g,0,none⟩)),eqv (.pointer (some ⟨p.g,4,none⟩)),eqv (.map (some p.f)),eqv (.pointer (some ⟨X,1,none⟩)),eqv (.int .i64 k),eqv (.pointer (some ⟨X,0,none⟩)),eqv (.int .i64 id)]
structure Zo7 (p:GP) (id k:Int) (X:Nat) (c:Act):Prop where
 t0:c.eval (.tmp 0)=.pointer (some ⟨p.g,0,none⟩)
 t3:c.eval (.tmp 3)=.pointer (some ⟨X,0,none⟩)
structure Zlh (p:GP) (id k:Int) (X:Nat) (w:World):Prop where
 cm:w.cell? ⟨p.g,4,none⟩=some (.map (some p.f))
 xk:w.cell? ⟨X,1,none⟩=some (.int .i64 k)
 xi:w.cell? ⟨X,0,none⟩=some (.int .i64 id)
theorem Zup (p:GP) (id k:Int) (X:Nat):∀ pr ∈ Zc7 p id k X,Zct pr:=by
 unfold Zc7
 iterate 8 (first | refine List.forall_mem_cons.2 ⟨Zal _,?_⟩)
 exact List.forall_mem_nil _
theorem Jel (p:GP) (id k:Int) (X:Nat) (Q:Exit->Act->World->Prop):∀ i,i<8->(fun i=>i ∉ ([]:List Nat)->∀ c w,Zo7 p id k X c->Zlh p id k X w->(∀ q0 ∈ Zqj i,Zg (Zc7 p id k X) q0 (val Zza c q0) w)->Zbp Tryz.prog Zza Q (Zg (Zc7 p id k X)) i c w) i:=by
 iterate 8 (refine Zd ?_ (by
  intro hn c w L x l
  first
  | exact absurd (by decide) hn
  | (have hEq:=Za5 Jek (by decide) l
     refine Zbb Jek (by decide) rfl (fun _=>rfl) ?_
     obtain ⟨t0,t3⟩:=L
     obtain ⟨cm,xk,xi⟩:=x
     have ec:=evc c
     have ef:=evf c
     dsimp only [Zqj,Jia,Zc7,nth,Zdj,Za2,eqv] at hEq |-
     refine .inl fun pos af=>?_
     clear l hn
     dsimp only [Sig.oper]
     generalize c.eval=ρ at *
     go_simp
     done)))
 exact Zf
theorem Jem (p:GP) (id k:Int) (X:Nat) (Q:Exit->Act->World->Prop):∀ i,i<8->(fun i=>∀ c w,Zo7 p id k X c->Zlh p id k X w->(∀ q0 ∈ Zqj i,Zg (Zc7 p id k X) q0 (val Zza c q0) w)->Zbp Tryz.prog Zza Q (Zg (Zc7 p id k X)) i c w) i:=by
 intro i d
 exact Jel p id k X Q i d (by simp [*])
theorem Zuq (p:GP) (id k:Int) (X:Nat) (Q:Exit->Act->World->Prop) (base:Act) (M:World) (b2:base.tmps.size=22) (L:Zo7 p id k X base)
  (x:∀ w,Below M.heap.size M w->Zlh p id k X w) (hL:∀ c w,Zaf Zza base c->Below M.heap.size M w->c.eval (.tmp 7)=.map (some p.f)->c.eval (.tmp 9)=.int .i64 k->c.eval (.tmp 11)=.int .i64 id->Calls Tryz.prog 141 #[.map (some p.f),.int .i64 k,.int .i64 id] w fun e w'=>∃ v,e=.returned v/\Q .normal (c.put (some 12) v) w'):(Code.region 1 Zza true).wp Tryz.prog Q base M:=by
 have U:(List.range 8).all (fun i=>(Zv Zza i).isSome)=true:=by kernel_rfl
 refine Zjc (A:=Zqj) (F:=Zg (Zc7 p id k X)) 8 (by kernel_rfl) (by kernel_rfl) (by rw [b2];kernel_rfl) ?_ (by decide) (fun i v w w'=>Jk (Zup p id k X) i v w w') ?_ ?_
 ·exact fun i d=>Option.isSome_iff_exists.1 (List.all_eq_true.1 U i (List.mem_range.2 d))
 ·intro i d c w m hB l
  exact Jem p id k X Q i d c w ⟨(Zc m (by kernel_rfl)).trans L.t0,(Zc m (by kernel_rfl)).trans L.t3⟩ (x w hB) l
 ·intro c w m hB l
  have e7:c.eval (.tmp 7)=.map (some p.f):=Zm (by kernel_rfl) rfl (l 3 (by omega))
  have e9:c.eval (.tmp 9)=.int .i64 k:=Zm (by kernel_rfl) rfl (l 5 (by omega))
  have a8:c.eval (.tmp 11)=.int .i64 id:=Zm (by kernel_rfl) rfl (l 7 (by omega))
  refine Zn9 (o:={ dst:=some 12,op:=Op.call { callee:=Callee.value (Operand.func 141),args:=#[Operand.tmp 7,Operand.tmp 9,Operand.tmp 11],argTypes:=#[72,2,2] },type:=0,pos := "edit.go:131",after:=#[{ on:=3,ground:=Ground.data },{ on:=5,ground:=Ground.data },{ on:=7,ground:=Ground.data }],guard:=none }) (by kernel_rfl) (Zz rfl) (f:=141) (args:=#[.map (some p.f),.int .i64 k,.int .i64 id]) ?_ (hL c w m hB e7 e9 a8)
  have ef:=evf c
  have ec:=evc c
  clear l m hL L x
  generalize c.eval=ρ at *
  go_simp
noncomputable def Zzb  : Array Oper:=Zy Tryz.f92 2
def Jib  : List Sig:=[⟨13,.move (.tmp 0),31,none⟩,⟨14,.nilCheck (.tmp 13),0,none⟩,⟨15,.fieldAddr 74 (.tmp 14) 2,0,none⟩,⟨16,.load 72 (.tmp 15),72,none⟩,⟨17,.fieldAddr 49 (.tmp 3) 2,0,none⟩,⟨18,.load 2 (.tmp 17),2,none⟩,⟨19,.fieldAddr 49 (.tmp 3) 0,0,none⟩,⟨20,.load 2 (.tmp 19),2,none⟩]
theorem Jen  : (Jh Zzb).take Jib.length=Jib.map some:=by kernel_rfl
def Zqk (i:Nat):List Nat:=nth [] [[],[0],[0,1],[0,1,2],[],[4],[],[6],[0,1,2,3,4,5,6,7]] i
def Zc8 (p:GP) (id k:Int) (X:Nat):List (Value->World->Prop) :=
 [eqv (.pointer (some ⟨p.g,0,none⟩)),eqv (.pointer (some ⟨p.g,0,none⟩)),eqv (.pointer (some ⟨p.g,5,none⟩)),eqv (.map (some p.t)),eqv (.pointer (some ⟨X,2,none⟩)),eqv (.int .i64 k),eqv (.pointer (some ⟨X,0,none⟩)),eqv (.int .i64 id)]
structure Zo8 (p:GP) (id k:Int) (X:Nat) (c:Act):Prop where
 t0:c.eval (.tmp 0)=.pointer (some ⟨p.g,0,none⟩)
 t3:c.eval (.tmp 3)=.pointer (some ⟨X,0,none⟩)
structure Zli (p:GP) (id k:Int) (X:Nat) (w:World):Prop where
 cm:w.cell? ⟨p.g,5,none⟩=some (.map (some p.t))
 xk:w.cell? ⟨X,2,none⟩=some (.int .i64 k)
 xi:w.cell? ⟨X,0,none⟩=some (.int .i64 id)
theorem Zur (p:GP) (id k:Int) (X:Nat):∀ pr ∈ Zc8 p id k X,Zct pr:=by
 unfold Zc8
 iterate 8 (first | refine List.forall_mem_cons.2 ⟨Zal _,?_⟩)
 exact List.forall_mem_nil _
theorem Jeo (p:GP) (id k:Int) (X:Nat) (Q:Exit->Act->World->Prop):∀ i,i<8->(fun i=>i ∉ ([]:List Nat)->∀ c w,Zo8 p id k X c->Zli p id k X w->(∀ q0 ∈ Zqk i,Zg (Zc8 p id k X) q0 (val Zzb c q0) w)->Zbp Tryz.prog Zzb Q (Zg (Zc8 p id k X)) i c w) i:=by
 iterate 8 (refine Zd ?_ (by
  intro hn c w L x l
  first
  | exact absurd (by decide) hn
  | (have hEq:=Za5 Jen (by decide) l
     refine Zbb Jen (by decide) rfl (fun _=>rfl) ?_
     obtain ⟨t0,t3⟩:=L
     obtain ⟨cm,xk,xi⟩:=x
     have ec:=evc c
     have ef:=evf c
     dsimp only [Zqk,Jib,Zc8,nth,Zdj,Za2,eqv] at hEq |-
     refine .inl fun pos af=>?_
     clear l hn
     dsimp only [Sig.oper]
     generalize c.eval=ρ at *
     go_simp
     done)))
 exact Zf
theorem Jep (p:GP) (id k:Int) (X:Nat) (Q:Exit->Act->World->Prop):∀ i,i<8->(fun i=>∀ c w,Zo8 p id k X c->Zli p id k X w->(∀ q0 ∈ Zqk i,Zg (Zc8 p id k X) q0 (val Zzb c q0) w)->Zbp Tryz.prog Zzb Q (Zg (Zc8 p id k X)) i c w) i:=by
 intro i d
 exact Jeo p id k X Q i d (by simp [*])
theorem Zus (p:GP) (id k:Int) (X:Nat) (Q:Exit->Act->World->Prop) (base:Act) (M:World) (b2:base.tmps.size=22) (L:Zo8 p id k X base)
  (x:∀ w,Below M.heap.size M w->Zli p id k X w) (hL:∀ c w,Zaf Zzb base c->Below M.heap.size M w->c.eval (.tmp 16)=.map (some p.t)->c.eval (.tmp 18)=.int .i64 k->c.eval (.tmp 20)=.int .i64 id->Calls Tryz.prog 141 #[.map (some p.t),.int .i64 k,.int .i64 id] w fun e w'=>∃ v,e=.returned v/\Q .normal (c.put (some 21) v) w'):(Code.region 2 Zzb true).wp Tryz.prog Q base M:=by
 have U:(List.range 8).all (fun i=>(Zv Zzb i).isSome)=true:=by kernel_rfl
 refine Zjc (A:=Zqk) (F:=Zg (Zc8 p id k X)) 8 (by kernel_rfl) (by kernel_rfl) (by rw [b2];kernel_rfl) ?_ (by decide) (fun i v w w'=>Jk (Zur p id k X) i v w w') ?_ ?_
 ·exact fun i d=>Option.isSome_iff_exists.1 (List.all_eq_true.1 U i (List.mem_range.2 d))
 ·intro i d c w m hB l
  exact Jep p id k X Q i d c w ⟨(Zc m (by kernel_rfl)).trans L.t0,(Zc m (by kernel_rfl)).trans L.t3⟩ (x w hB) l
 ·intro c w m hB l
  have b5:c.eval (.tmp 16)=.map (some p.t):=Zm (by kernel_rfl) rfl (l 3 (by omega))
  have a9:c.eval (.tmp 18)=.int .i64 k:=Zm (by kernel_rfl) rfl (l 5 (by omega))
  have b8:c.eval (.tmp 20)=.int .i64 id:=Zm (by kernel_rfl) rfl (l 7 (by omega))
  refine Zn9 (o:={ dst:=some 21,op:=Op.call { callee:=Callee.value (Operand.func 141),args:=#[Operand.tmp 16,Operand.tmp 18,Operand.tmp 20],argTypes:=#[72,2,2] },type:=0,pos := "edit.go:132",after:=#[{ on:=3,ground:=Ground.data },{ on:=5,ground:=Ground.data },{ on:=7,ground:=Ground.data }],guard:=none }) (by kernel_rfl) (Zz rfl) (f:=141) (args:=#[.map (some p.t),.int .i64 k,.int .i64 id]) ?_ (hL c w m hB b5 a9 b8)
  have ef:=evf c
  have ec:=evc c
  clear l m hL L x
  generalize c.eval=ρ at *
  go_simp
structure Jch (b Y:Nat) (w w':World):Prop where
 os:w'.os=w.os
 tape:w'.tape=w.tape
 output:w'.output=w.output
 size:w'.heap.size=w.heap.size
 other:∀ i,i≠b->i≠Y->w'.heap[i]?=w.heap[i]?
theorem Jch.below {b Y B:Nat} {w w':World} (h:Jch b Y w w') (h1:B<=b) (h2:B<=Y):Below B w w':=⟨h.os,h.tape,h.output,by rw [h.size];exact Nat.le_refl _,fun i d=>h.other i (by omega) (by omega)⟩
theorem Zkc {w:World} {b:Nat} {es:List (Int × Value)} (h:MI w b es) (j:Nat) (k id:Int) (Y off c:Nat) (hj:es[j]?=some (k,.slice (some ⟨Y,off,none⟩) 1 c)) (hu:∀ i p,es[i]?=some p->p.1=k->i=j) (hk:I64 k) (hc:w.cell? ⟨Y,off,none⟩=some (.int .i64 id)) (hz:w.frozen? ⟨Y,off,none⟩=false) (g4:1<=c) (g7:c<=9223372036854775807) (f9:Y≠b) :
  Calls Tryz.prog 141 #[.map (some b),.int .i64 k,.int .i64 id] w fun e w'=>e=.returned (.tuple #[])/\MI w' b (es.eraseIdx j)/\Jch b Y w w':=by
 have HM:=Zb h
 have HU:=Zb hu
 have HJ:=Zb hj
 have a7:(k,Value.slice (some ⟨Y,off,none⟩) 1 c) ∈ es:=List.mem_of_getElem? hj
 have lk:=(Zk7 (z:=.slice none 0 0) Tryz.underlying72' h k (.slice (some ⟨Y,off,none⟩) 1 c) hk a7 (fun p hp e=>by
  obtain ⟨i,d,he⟩:=List.mem_iff_getElem.1 hp
  have h1:es[i]?=some p:=by rw [List.getElem?_eq_getElem d,he]
  have:=hu i p h1 e
  subst this
  rw [hj] at h1
  cases h1;rfl)).2
 have b9:=Tryz.slices_BinarySearch_int Y off 1 c [id] id w (by simp) (by omega) (fun i d=>by
  have:i=0:=by simp at d;omega
  subst this
  simpa using hc) (by simp)
 have e0:(([id].take 1).countP (·<id):Nat)=0:=by simp
 have e1:([id].take 1).contains id=true:=by simp
 rw [e0,e1] at b9
 have e6:=Zb b9
 have a1:=hc
 have e2:=hz
 have b6:=Zb (And.intro a1 e2)
 clear h hu hj b9 e0 e1 a1 e2 hc hz a7
 go_enter Tryz.func141,Tryz.ntmps141
 go_wp2_with fail
 refine e6.out.mono ?_
 rintro e w1 ⟨rfl,q,a5⟩
 have hD:=Tryz.slices_Delete_int Y off c 0 1 [id] w1 (fun i d=>by
  have:i=0:=by simp at d;omega
  subst this
  rw [a5]
  exact ⟨by simpa using b6.out.1,b6.out.2⟩) (by simpa using g4) g7 (by omega) (by simp)
 have HD:Hid (Calls Tryz.prog 180 #[.slice (some ⟨Y,off,none⟩) 1 c,.int .i64 0,.int .i64 1] w1 fun e w'=>e=.returned (.slice (some ⟨Y,off,none⟩) 0 c)/\∃ q,w'=Sort.putRow (Value.int .i64) (Sort.ahead w1 q) Y off #[0]):=by
  show Calls _ _ _ _ _
  simpa using hD
 have c1:Hid (MI w1 b es):=by rw [a5];exact HM.out.block rfl
 have I:Hid (Jch b Y w w1):=by rw [a5];exact ⟨rfl,rfl,rfl,rfl,fun _ _ _=>rfl⟩
 clear hD a5 e6 b6 lk
 go_wp2_with fail
 refine HD.out.mono ?_
 rintro e w2 ⟨rfl,q2,b7⟩
 have G:Hid (Jch b Y w w2):=by
  rw [b7]
  refine ⟨I.out.os,I.out.tape,I.out.output,by simpa [Sort.ahead] using I.out.size,fun i h1 h2=>?_⟩
  rw [<- I.out.other i h1 h2]
  simp [Sort.putRow,Sort.mapBlock,Sort.ahead,Array.getElem?_modify,Ne.symm h2]
 have c0:Hid (MI w2 b es):=by
  refine c1.out.block ?_
  rw [b7]
  simp [Sort.putRow,Sort.mapBlock,Sort.ahead,Array.getElem?_modify,f9]
 clear b7 c1 I HD
 obtain ⟨w3,h3,K,d6,d4,a3⟩:=Jce Tryz.underlying72' c0.out j k (.slice (some ⟨Y,off,none⟩) 1 c) (.slice (some ⟨Y,off,none⟩) 0 c) hk HJ.out HU.out
 have d8:=Zb K
 have E:Hid (Jch b Y w w3):=⟨a3.os.trans G.out.os,a3.tape.trans G.out.tape,a3.output.trans G.out.output,d6.trans G.out.size,fun i h1 h2=>(d4 i h1).trans (G.out.other i h1 h2)⟩
 clear K d6 d4 a3 c0 G
 have c9:j<es.length:=(List.getElem?_eq_some_iff.1 HJ.out).1
 obtain ⟨w4,g9,f7,d9,d5,a6⟩:=Zsk (ty:=0) Tryz.underlying72' d8.out j k (.slice (some ⟨Y,off,none⟩) 0 c) hk (by simp [c9]) (fun i p hp e=>by
  by_cases hij:j=i
  ·exact hij.symm
  ·rw [List.getElem?_set_ne hij] at hp
   exact HU.out i p hp e)
 have f8:Hid (MI w4 b (es.eraseIdx j)):=by
  have e:(es.set j (k,Value.slice (some ⟨Y,off,none⟩) 0 c)).eraseIdx j=es.eraseIdx j:=by
   apply List.ext_getElem?
   intro i
   simp only [List.getElem?_eraseIdx]
   split
   ·rw [List.getElem?_set_ne (by omega)]
   ·rw [List.getElem?_set_ne (by omega)]
  show MI _ _ _
  rw [<- e];exact f7
 have g2:Hid (Jch b Y w w4):=⟨a6.os.trans E.out.os,a6.tape.trans E.out.tape,a6.output.trans E.out.output,d9.trans E.out.size,fun i h1 h2=>(d5 i h1).trans (E.out.other i h1 h2)⟩
 clear f7 d9 d5 a6 E d8 c9
 go_wp2_with fail
 exact bodyPost_end (v:=.tuple #[]) (by simp [results,Tryz.results141,go_sem]) rfl ⟨rfl,f8.out,g2.out⟩
theorem Zsu {w:World} {p:GP} {nn nr:Int} {N R F T:List (Int × Value)} (h:GS w p nn nr N R F T) (B:Nat) (e4:p.Ok B) (hB:B<=w.heap.size) (id f t:Int) (s:ByteArray) (pa:Option Addr) (pn pc:Nat) (hf:I64 f) (ht:I64 t)
  (i j Y Z yo zo yc zc:Nat) (d:F[i]?=some (f,.slice (some ⟨Y,yo,none⟩) 1 yc)) (hj:T[j]?=some (t,.slice (some ⟨Z,zo,none⟩) 1 zc)) (d3:∀ a q,F[a]?=some q->q.1=f->a=i) (d2:∀ a q,T[a]?=some q->q.1=t->a=j)
  (y0:w.cell? ⟨Y,yo,none⟩=some (.int .i64 id)) (y1:w.frozen? ⟨Y,yo,none⟩=false) (z0:w.cell? ⟨Z,zo,none⟩=some (.int .i64 id)) (z1:w.frozen? ⟨Z,zo,none⟩=false) (f5:1<=yc/\yc<=9223372036854775807) (f3:1<=zc/\zc<=9223372036854775807)
  (hY:Y≠p.g/\Y≠p.n/\Y≠p.r/\Y≠p.f/\Y≠p.t/\B<=Y) (hZ:Z≠p.g/\Z≠p.n/\Z≠p.r/\Z≠p.f/\Z≠p.t/\B<=Z) (g3:Y≠Z) :
  Calls Tryz.prog 92 #[p.val,.agg #[.int .i64 id,.int .i64 f,.int .i64 t,.string s,.slice pa pn pc]] w fun e w'=>e=.returned (.tuple #[])/\GS w' p nn nr N R (F.eraseIdx i) (T.eraseIdx j)/\Below B w w':=by
 have HG:=Zb h
 have g1:=Zb e4
 have HI:=Zb (And.intro d d3)
 have HJ:=Zb (And.intro hj d2)
 have HY:=Zb (And.intro y0 (And.intro y1 f5))
 have HZ:=Zb (And.intro z0 (And.intro z1 f3))
 have c2:Y<w.heap.size:=Zaq y0
 have g5:Z<w.heap.size:=Zaq z0
 obtain ⟨Y1,Y2,Y3,Y4,Y5,Y6⟩:=hY
 obtain ⟨Z1,Z2,Z3,Z4,Z5,Z6⟩:=hZ
 clear h e4 d hj d3 d2 y0 y1 z0 z1 f5 f3
 unfold GP.val
 go_enter Tryz.func92,Tryz.ntmps92
 go_upto_region 1 with fail
 generalize b4:World.alloc _ _=W1
 have b0:Hid (Below w.heap.size w W1):=by rw [<- b4];exact (Below.refl _ _).alloc (Nat.le_refl _) _
 have D:Hid (Rec W1 w.heap.size #[.int .i64 id,.int .i64 f,.int .i64 t,.string s,.slice pa pn pc] 49):=by rw [<- b4];exact Zl _ _ _
 have a0:=Zb (HG.out.below b0.out)
 clear b4
 show (Code.region 1 Zza true).wp _ _ _ _
 refine Zuq p id f w.heap.size _ _ _ rfl ⟨rfl,rfl⟩ ?_ ?_
 ·intro W x
  exact ⟨(x.cell (p:=⟨p.g,4,none⟩) a0.out.obj.lt).trans a0.out.c4,(x.cell (p:=⟨w.heap.size,1,none⟩) D.out.lt).trans (D.out.cell 1 rfl),(x.cell (p:=⟨w.heap.size,0,none⟩) D.out.lt).trans (D.out.cell 0 rfl)⟩
 intro c W2 m V e7 e9 a8
 have u:=Za b0.out V
 refine (Zkc (a0.out.f.below V (Nat.le_refl _)) i f id Y yo yc HI.out.1 HI.out.2 hf ((u.cell (p:=⟨Y,yo,none⟩) c2).trans HY.out.1) ((u.frozen (p:=⟨Y,yo,none⟩) c2).trans HY.out.2.1) HY.out.2.2.1 HY.out.2.2.2 Y4).mono ?_
 rintro e W3 ⟨rfl,K,C⟩
 refine ⟨_,rfl,?_⟩
 rw [Zba m [4,5,6,7,8,9,10,11,12] (by kernel_rfl)]
 obtain ⟨y4,q4⟩:∃ y,c.eval (.tmp 4)=y:=⟨_,rfl⟩
 obtain ⟨y5,q5⟩:∃ y,c.eval (.tmp 5)=y:=⟨_,rfl⟩
 obtain ⟨y6,q6⟩:∃ y,c.eval (.tmp 6)=y:=⟨_,rfl⟩
 obtain ⟨y7,q7⟩:∃ y,c.eval (.tmp 7)=y:=⟨_,rfl⟩
 obtain ⟨y8,q8⟩:∃ y,c.eval (.tmp 8)=y:=⟨_,rfl⟩
 obtain ⟨y9,q9⟩:∃ y,c.eval (.tmp 9)=y:=⟨_,rfl⟩
 obtain ⟨h5,d0⟩:∃ y,c.eval (.tmp 10)=y:=⟨_,rfl⟩
 obtain ⟨i3,c8⟩:∃ y,c.eval (.tmp 11)=y:=⟨_,rfl⟩
 obtain ⟨i2,c3⟩:∃ y,c.eval (.tmp 12)=y:=⟨_,rfl⟩
 simp only [List.foldl_cons,List.foldl_nil,q4,q5,q6,q7,q8,q9,d0,c8,c3]
 clear q4 q5 q6 q7 q8 q9 d0 c8 c3
 simp only [Act.put,List.setIfInBounds_toArray,List.set_cons_succ,List.set_cons_zero]
 clear m e7 e9 a8
 obtain ⟨o1,o2,o3,o4,o5,n1,n2,n3,n4,n5,n6,n7,n8,n9,e5⟩:=g1.out
 have S:=Zb (a0.out.below V)
 have u1:=HG.out.obj.lt
 have u4:=HG.out.f.lt
 have u5:=HG.out.t.lt
 have a2:Hid (GS W3 p nn nr N R (F.eraseIdx i) T) :=
  ⟨S.out.obj.keep (C.other _ n3 (Ne.symm Y1)),S.out.n.block (C.other _ n6 (Ne.symm Y2)),S.out.r.block (C.other _ n8 (Ne.symm Y3)),K,S.out.t.block (C.other _ (Ne.symm e5) (Ne.symm Y5))⟩
 have a4:Hid (Rec W3 w.heap.size #[.int .i64 id,.int .i64 f,.int .i64 t,.string s,.slice pa pn pc] 49):=(D.out.below V D.out.lt).keep (C.other _ (by omega) (by omega))
 have b3:Hid (Below B w W3):=(u.mono hB).trans (C.below o4 Y6)
 have g6:Hid (W3.heap[Z]?=w.heap[Z]?):=(C.other Z Z4 (Ne.symm g3)).trans (u.block Z g5)
 clear K C S a0 b0 D V u
 go_upto_region 2 with fail
 show (Code.region 2 Zzb true).wp _ _ _ _
 refine Zus p id t w.heap.size _ _ _ rfl ⟨rfl,rfl⟩ ?_ ?_
 ·intro W x
  exact ⟨(x.cell (p:=⟨p.g,5,none⟩) a2.out.obj.lt).trans a2.out.c5,(x.cell (p:=⟨w.heap.size,2,none⟩) a4.out.lt).trans (a4.out.cell 2 rfl),(x.cell (p:=⟨w.heap.size,0,none⟩) a4.out.lt).trans (a4.out.cell 0 rfl)⟩
 intro c W4 m P b5 a9 b8
 have f1:Z<W3.heap.size:=by have:=b3.out.size;omega
 have b1:W4.heap[Z]?=w.heap[Z]?:=(P.block Z f1).trans g6.out
 refine (Zkc (a2.out.t.below P (Nat.le_refl _)) j t id Z zo zc HJ.out.1 HJ.out.2 ht ((World.cell?_of_block (a:=⟨Z,zo,none⟩) b1).trans HZ.out.1) ((World.frozen?_of_block (a:=⟨Z,zo,none⟩) b1).trans HZ.out.2.1) HZ.out.2.2.1 HZ.out.2.2.2 Z5).mono ?_
 rintro e W5 ⟨rfl,e3,H⟩
 refine ⟨_,rfl,?_⟩
 rw [Zba m [13,14,15,16,17,18,19,20,21] (by kernel_rfl)]
 obtain ⟨h4,f0⟩:∃ y,c.eval (.tmp 13)=y:=⟨_,rfl⟩
 obtain ⟨h0,e8⟩:∃ y,c.eval (.tmp 14)=y:=⟨_,rfl⟩
 obtain ⟨i0,d7⟩:∃ y,c.eval (.tmp 15)=y:=⟨_,rfl⟩
 obtain ⟨i4,f2⟩:∃ y,c.eval (.tmp 16)=y:=⟨_,rfl⟩
 obtain ⟨h7,f6⟩:∃ y,c.eval (.tmp 17)=y:=⟨_,rfl⟩
 obtain ⟨h9,c7⟩:∃ y,c.eval (.tmp 18)=y:=⟨_,rfl⟩
 obtain ⟨i1,f4⟩:∃ y,c.eval (.tmp 19)=y:=⟨_,rfl⟩
 obtain ⟨h6,c6⟩:∃ y,c.eval (.tmp 20)=y:=⟨_,rfl⟩
 obtain ⟨h8,d1⟩:∃ y,c.eval (.tmp 21)=y:=⟨_,rfl⟩
 simp only [List.foldl_cons,List.foldl_nil,f0,e8,d7,f2,f6,c7,f4,c6,d1]
 clear f0 e8 d7 f2 f6 c7 f4 c6 d1
 simp only [Act.put,List.setIfInBounds_toArray,List.set_cons_succ,List.set_cons_zero]
 clear m b5 a9 b8 b1
 have O:=Zb (a2.out.below P)
 have g8:Hid (GS W5 p nn nr N R (F.eraseIdx i) (T.eraseIdx j)) :=
  ⟨O.out.obj.keep (H.other _ n4 (Ne.symm Z1)),O.out.n.block (H.other _ n7 (Ne.symm Z2)),O.out.r.block (H.other _ n9 (Ne.symm Z3)),O.out.f.block (H.other _ e5 (Ne.symm Z4)),e3⟩
 have g0:Hid (Below B w W5):=(b3.out.trans (P.mono (by have:=b3.out.size;omega))).trans (H.below o5 Z6)
 clear e3 H O P
 go_wp2_with fail
 exact bodyPost_end (v:=.tuple #[]) (by simp [results,Tryz.results92,go_sem]) rfl ⟨rfl,g8.out,g0.out⟩
end
