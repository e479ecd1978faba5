import Derived.Test.YteddjlbfbpecjaaGreatDoorJoin8
import Derived.Ground.SlgnProg
import Derived.Shelf.SlicesG.Delete
import Derived.Shelf.SlicesG.SearchI
import Derived.Shelf.SlicesG.CompactI
namespace Go.Proofs.YteddjlbfbpecjaaGreatDoor
set_option maxHeartbeats 8000000
set_option maxRecDepth 100000
set_option linter.all false
section
open Go.RowKit Go.Shelf
attribute [local go_sem] Oper.semAt_some
theorem Tryz.underlying72'  : Tryz.prog.underlying 72=some (.map 2 100):=by kernel_rfl
theorem Zpl (w:World):(zeroValue 100).run Tryz.prog w=.ok (.slice none 0 0) w:=by kernel_rfl
theorem Ztk {w:World} {p:GP} {nn nr:Int} {N R F T:List (Int × Value)} (h:GS w p nn nr N R F T) (B:Nat) (b0:p.Ok B) (hB:B<=w.heap.size) (id f t:Int) (s:ByteArray) (M:Option Addr) (L O:Nat) (hf:I64 f) (ht:I64 t) (hF:∀ q ∈ F,q.1≠f) (hT:∀ q ∈ T,q.1≠t) :
  Calls Tryz.prog 40 #[p.val,.agg #[.int .i64 id,.int .i64 f,.int .i64 t,.string s,.slice M L O]] w fun e w'=>e=.returned (.tuple #[])/\∃ fv tv,GS w' p nn nr N R (F++[(f,fv)]) (T++[(t,tv)])/\w'.ownsRow w.heap.size 2 1 fv 1 [.int .i64 id]/\(∃ b,w.heap.size<=b/\w'.ownsRow b 2 1 tv 1 [.int .i64 id]/\∀ q,fv.ownBlock=some q->q<b)/\Below B w w'/\(∀ i,i<w.heap.size->i≠p.f->i≠p.t->w'.heap[i]?=w.heap[i]?):=by
 have HG:=Zb h
 have d0:=Zb b0
 have HF:=Zb hF
 have HT:=Zb hT
 have c7:p.g<w.heap.size/\p.n<w.heap.size/\p.r<w.heap.size/\p.f<w.heap.size/\p.t<w.heap.size:=⟨h.obj.lt,h.n.lt,h.r.lt,h.f.lt,h.t.lt⟩
 obtain ⟨u1,u2,u3,u4,u5⟩:=c7
 clear h b0 hF hT
 unfold GP.val
 go_enter Tryz.func40,Tryz.ntmps40
 go_upto_region 1 with fail
 generalize d4:World.alloc _ _=W1
 have d3:Hid (Below w.heap.size w W1):=by rw [<- d4];exact (Below.refl _ _).alloc (Nat.le_refl _) _
 have d2:Hid (Rec W1 w.heap.size #[.int .i64 id,.int .i64 f,.int .i64 t,.string s,.slice M L O] 49):=by rw [<- d4];exact Zl _ _ _
 have e6:w.heap.size<W1.heap.size:=by rw [<- d4];simp
 have a0:=Zb (HG.out.below d3.out)
 clear d4
 show (Code.region 1 Zn5 true).wp _ _ _ _
 refine Zw1 p id f w.heap.size W1.heap.size _ _ _ rfl ⟨rfl,rfl⟩ ?_ ?_
 ·intro W d
  exact ⟨(d.cell (p:=⟨p.g,4,none⟩) a0.out.obj.lt).trans a0.out.c4,(d.cell (p:=⟨w.heap.size,1,none⟩) e6).trans (d2.out.cell 1 rfl),(d.cell (p:=⟨w.heap.size,0,none⟩) e6).trans (d2.out.cell 0 rfl),(Zmn Tryz.underlying72' Zpl (a0.out.f.below d (Nat.le_refl _)) f hf HF.out).2,d.size⟩
 rintro c W2 hS Y e7 e9 ⟨j,ua,uc,b3⟩
 obtain ⟨W3,b5,x,l3,G,E⟩:=Zhj Tryz.underlying72' (a0.out.f.below Y (Nat.le_refl _)) f (.slice ua 1 uc) hf HF.out
 refine ⟨W3,?_,?_⟩
 ·generalize c.eval=ρ at *
  clear hS x G E j
  go_simp
 rw [b3] at j
 rw [Zba hS [4,5,6,7,8,9,10,11,12,13,14,15,16,17,18,19,20] (by kernel_rfl)]
 obtain ⟨y4,q4⟩:∃ y,c.eval (.tmp 4)=y:=⟨_,rfl⟩
 obtain ⟨y5,q5⟩:∃ y,c.eval (.tmp 5)=y:=⟨_,rfl⟩
 obtain ⟨y6,q6⟩:∃ y,c.eval (.tmp 6)=y:=⟨_,rfl⟩
 obtain ⟨y7,q7⟩:∃ y,c.eval (.tmp 7)=y:=⟨_,rfl⟩
 obtain ⟨y8,q8⟩:∃ y,c.eval (.tmp 8)=y:=⟨_,rfl⟩
 obtain ⟨y9,q9⟩:∃ y,c.eval (.tmp 9)=y:=⟨_,rfl⟩
 obtain ⟨s3,l7⟩:∃ y,c.eval (.tmp 10)=y:=⟨_,rfl⟩
 obtain ⟨s2,k0⟩:∃ y,c.eval (.tmp 11)=y:=⟨_,rfl⟩
 obtain ⟨m6,a1⟩:∃ y,c.eval (.tmp 12)=y:=⟨_,rfl⟩
 obtain ⟨q2,g1⟩:∃ y,c.eval (.tmp 13)=y:=⟨_,rfl⟩
 obtain ⟨t4,i2⟩:∃ y,c.eval (.tmp 14)=y:=⟨_,rfl⟩
 obtain ⟨p3,i4⟩:∃ y,c.eval (.tmp 15)=y:=⟨_,rfl⟩
 obtain ⟨p8,i3⟩:∃ y,c.eval (.tmp 16)=y:=⟨_,rfl⟩
 obtain ⟨r5,f8⟩:∃ y,c.eval (.tmp 17)=y:=⟨_,rfl⟩
 obtain ⟨p6,i8⟩:∃ y,c.eval (.tmp 18)=y:=⟨_,rfl⟩
 obtain ⟨u7,l5⟩:∃ y,c.eval (.tmp 19)=y:=⟨_,rfl⟩
 obtain ⟨p5,k9⟩:∃ y,c.eval (.tmp 20)=y:=⟨_,rfl⟩
 simp only [List.foldl_cons,List.foldl_nil,q4,q5,q6,q7,q8,q9,l7,k0,a1,g1,i2,i4,i3,f8,i8,l5,k9]
 clear q4 q5 q6 q7 q8 q9 l7 k0 a1 g1 i2 i4 i3 f8 i8 l5 k9
 simp only [List.setIfInBounds_toArray,List.set_cons_succ,List.set_cons_zero]
 clear hS e7 e9 b3 b5
 obtain ⟨o1,o2,o3,o4,o5,n1,n2,n3,n4,n5,n6,n7,n8,n9,e4⟩:=d0.out
 have b8:=Zb (a0.out.below Y)
 have b6:Hid (GS W3 p nn nr N R (F++[(f,.slice ua 1 uc)]) T) :=
  ⟨b8.out.obj.keep (G _ n3),b8.out.n.block (G _ n6),b8.out.r.block (G _ n8),x,b8.out.t.block (G _ (Ne.symm e4))⟩
 have d1:Hid (Rec W3 w.heap.size #[.int .i64 id,.int .i64 f,.int .i64 t,.string s,.slice M L O] 49):=(d2.out.below Y e6).keep (G _ (by omega))
 have i7:Hid (W3.ownsRow W1.heap.size 2 1 (.slice ua 1 uc) 1 [.int .i64 id]):=Jf j fun g hg _=>G g (by omega)
 have o7:W1.heap.size<=W3.heap.size:=by rw [l3];exact Y.size
 have m3:Hid (∀ i,i<w.heap.size->i≠p.f->W3.heap[i]?=w.heap[i]?):=fun i hi h1=>(G i h1).trans ((Y.block i (by omega)).trans (d3.out.block i hi))
 have D:Hid (Below B w W3):=(d3.out.mono hB).trans ((Y.mono (by omega)).trans (E.mono o4))
 clear x G E l3 Y b8 j a0 d3 d2
 go_upto_region 2 with fail
 show (Code.region 2 Zn6 true).wp _ _ _ _
 refine Zw3 p id t w.heap.size W3.heap.size _ _ _ rfl ⟨rfl,rfl⟩ ?_ ?_
 ·intro W d
  exact ⟨(d.cell (p:=⟨p.g,5,none⟩) b6.out.obj.lt).trans b6.out.c5,(d.cell (p:=⟨w.heap.size,2,none⟩) d1.out.lt).trans (d1.out.cell 2 rfl),(d.cell (p:=⟨w.heap.size,0,none⟩) d1.out.lt).trans (d1.out.cell 0 rfl),(Zmn Tryz.underlying72' Zpl (b6.out.t.below d (Nat.le_refl _)) t ht HT.out).2,d.size⟩
 rintro c W4 hS a2 e7 e9 ⟨j,va,vc,b3⟩
 obtain ⟨W5,b5,x,o6,H,I⟩:=Zhj Tryz.underlying72' (b6.out.t.below a2 (Nat.le_refl _)) t (.slice va 1 vc) ht HT.out
 refine ⟨W5,?_,?_⟩
 ·generalize c.eval=ρ at *
  clear hS x H I j
  go_simp
 rw [b3] at j
 rw [Zba hS [21,22,23,24,25,26,27,28,29,30,31,32,33,34,35,36,37] (by kernel_rfl)]
 obtain ⟨s4,k1⟩:∃ y,c.eval (.tmp 21)=y:=⟨_,rfl⟩
 obtain ⟨p9,g2⟩:∃ y,c.eval (.tmp 22)=y:=⟨_,rfl⟩
 obtain ⟨r8,j7⟩:∃ y,c.eval (.tmp 23)=y:=⟨_,rfl⟩
 obtain ⟨s1,i1⟩:∃ y,c.eval (.tmp 24)=y:=⟨_,rfl⟩
 obtain ⟨t6,h4⟩:∃ y,c.eval (.tmp 25)=y:=⟨_,rfl⟩
 obtain ⟨s8,g3⟩:∃ y,c.eval (.tmp 26)=y:=⟨_,rfl⟩
 obtain ⟨p1,l6⟩:∃ y,c.eval (.tmp 27)=y:=⟨_,rfl⟩
 obtain ⟨p2,l2⟩:∃ y,c.eval (.tmp 28)=y:=⟨_,rfl⟩
 obtain ⟨t9,i6⟩:∃ y,c.eval (.tmp 29)=y:=⟨_,rfl⟩
 obtain ⟨t1,k5⟩:∃ y,c.eval (.tmp 30)=y:=⟨_,rfl⟩
 obtain ⟨q1,j4⟩:∃ y,c.eval (.tmp 31)=y:=⟨_,rfl⟩
 obtain ⟨s7,f7⟩:∃ y,c.eval (.tmp 32)=y:=⟨_,rfl⟩
 obtain ⟨p4,j1⟩:∃ y,c.eval (.tmp 33)=y:=⟨_,rfl⟩
 obtain ⟨q0,h5⟩:∃ y,c.eval (.tmp 34)=y:=⟨_,rfl⟩
 obtain ⟨r2,j0⟩:∃ y,c.eval (.tmp 35)=y:=⟨_,rfl⟩
 obtain ⟨p7,j8⟩:∃ y,c.eval (.tmp 36)=y:=⟨_,rfl⟩
 obtain ⟨t7,g8⟩:∃ y,c.eval (.tmp 37)=y:=⟨_,rfl⟩
 simp only [List.foldl_cons,List.foldl_nil,k1,g2,j7,i1,h4,g3,l6,l2,i6,k5,j4,f7,j1,h5,j0,j8,g8]
 clear k1 g2 j7 i1 h4 g3 l6 l2 i6 k5 j4 f7 j1 h5 j0 j8 g8
 simp only [List.setIfInBounds_toArray,List.set_cons_succ,List.set_cons_zero]
 clear hS e7 e9 b3 b5
 have a8:=Zb (b6.out.below a2)
 have c0:Hid (GS W5 p nn nr N R (F++[(f,.slice ua 1 uc)]) (T++[(t,.slice va 1 vc)])) :=
  ⟨a8.out.obj.keep (H _ n4),a8.out.n.block (H _ n7),a8.out.r.block (H _ n9),a8.out.f.block (H _ e4),x⟩
 have m7:Hid (W5.ownsRow w.heap.size 2 1 (.slice ua 1 uc) 1 [.int .i64 id]):=Zeq (Jf i7.out fun g hg hl=>(H g (by omega)).trans (a2.block g hl)) (by omega)
 have m4:Hid (W5.ownsRow W3.heap.size 2 1 (.slice va 1 vc) 1 [.int .i64 id]):=Jf j fun g hg _=>H g (by omega)
 have HQ:Hid (∀ q,(Value.slice ua 1 uc).ownBlock=some q->q<W3.heap.size):=fun q hq=>(i7.out.lt q hq).2
 have Q:Hid (Below B w W5):=D.out.trans ((a2.mono (by omega)).trans (I.mono o5))
 have m1:Hid (∀ i,i<w.heap.size->i≠p.f->i≠p.t->W5.heap[i]?=w.heap[i]?):=fun i hi h1 h2=>(H i h2).trans ((a2.block i (by omega)).trans (m3.out i hi h1))
 clear x H I o6 a2 a8 j
 go_wp2_with fail
 exact bodyPost_end (v:=.tuple #[]) (by simp [results,Tryz.results40,go_sem]) rfl ⟨rfl,_,_,c0.out,m7.out,⟨W3.heap.size,by omega,m4.out,HQ.out⟩,Q.out,m1.out⟩
theorem Zew {w:World} {p:GP} {nn nr:Int} {N R F T:List (Int × Value)} (h:GS w p nn nr N R F T) (hN:Zhn N) (hR:Zhn R) (hn:∀ q ∈ N,Zg0 q.2) (hr:∀ q ∈ R,Zub q.2) (k:Int) (hk:I64 k) (b:Bool) (hb:Zd8 k N=b) :
  Calls Tryz.prog 91 #[.pointer (some ⟨p.g,0,none⟩),.bool false,.int .i64 k] w fun e w'=>e=.returned (.bool b)/\Below w.heap.size w w':=by
 have:=Zw9 h hN hR hn hr false k hk
 simpa [hb,GP.val] using this
theorem Zpm {w:World} {p:GP} {nn nr:Int} {N R F T:List (Int × Value)} (h:GS w p nn nr N R F T) (hN:Zhn N) (hR:Zhn R) (hn:∀ q ∈ N,Zg0 q.2) (hr:∀ q ∈ R,Zub q.2) (f t:Int) (s:ByteArray) (pv:Value) (e1:∃ a n c,pv=.slice a n c) (hf:I64 f) (ht:I64 t) (a4:Zd8 f N=true) (c2:Zd8 t N=false)
  (ha:∀ W,Below w.heap.size w W->Calls Tryz.prog 90 #[.string s] W fun e w'=>e=.returned (.bool true)/\Below W.heap.size W w')
  (hs:∀ W,Below w.heap.size w W->Calls Tryz.prog 86 #[pv] W fun e w'=>e=.returned (.bool true)/\Below W.heap.size W w') :
  Calls Tryz.prog 32 #[p.val,.int .i64 f,.int .i64 t,.string s,pv] w fun e w'=>e=.returned (.tuple #[.int .i64 0,.int .i64 5])/\Below w.heap.size w w':=by
 obtain ⟨qa,qn,qc,rfl⟩:=e1
 have a3:Hid (∀ W,Below w.heap.size w W->Calls Tryz.prog 91 #[.pointer (some ⟨p.g,0,none⟩),.bool false,.int .i64 f] W fun e w'=>e=.returned (.bool true)/\Below W.heap.size W w'):=fun W d=>Zew (h.below d) hN hR hn hr f hf true a4
 have b7:Hid (∀ W,Below w.heap.size w W->Calls Tryz.prog 91 #[.pointer (some ⟨p.g,0,none⟩),.bool false,.int .i64 t] W fun e w'=>e=.returned (.bool false)/\Below W.heap.size W w'):=fun W d=>Zew (h.below d) hN hR hn hr t ht false c2
 have U:=Zb (Zcw h)
 have HA:=Zb ha
 have HS:=Zb hs
 clear h hN hR hn hr ha hs hf ht a4 c2
 unfold GP.val at U |-
 go_enter Tryz.func32,Tryz.ntmps32
 go_wp2_with fail
 refine U.out.mono ?_
 rintro e w1 ⟨rfl,a6⟩
 rw [a6]
 clear a6 U
 go_wp2_with fail
 refine (HA.out w (Below.refl _ _)).mono ?_
 rintro e w2 ⟨rfl,b4⟩
 have P:=Zb b4
 clear b4 HA
 go_wp2_with fail
 refine (HS.out w2 P.out).mono ?_
 rintro e w3 ⟨rfl,E⟩
 have D:=Zb (Za P.out E)
 clear E HS P
 go_wp2_with fail
 refine (a3.out w3 D.out).mono ?_
 rintro e w4 ⟨rfl,b2⟩
 have S:=Zb (Za D.out b2)
 clear b2 a3 D
 go_wp2_with fail
 refine (b7.out w4 S.out).mono ?_
 rintro e w5 ⟨rfl,I⟩
 have Q:=Zb (Za S.out I)
 clear I b7 S
 go_wp2_with fail
 go_ret2
 exact ⟨rfl,Q.out⟩
theorem Zwx {w:World} {p:GP} {nn nr:Int} {N R F T:List (Int × Value)} (h:GS w p nn nr N R F T) (B:Nat) (b0:p.Ok B) (hB:B<=w.heap.size) (hN:Zhn N) (hR:Zhn R) (hn:∀ q ∈ N,Zg0 q.2) (hr:∀ q ∈ R,Zub q.2) (f t:Int) (s:ByteArray) (pv:Value) (K:World->Value->Prop) (e1:∃ a n c,pv=.slice a n c) (hf:I64 f) (ht:I64 t) (a4:Zd8 f N=true) (c2:Zd8 t N=true)
  (ha:∀ W,Below w.heap.size w W->Calls Tryz.prog 90 #[.string s] W fun e w'=>e=.returned (.bool true)/\Below W.heap.size W w')
  (hs:∀ W,Below w.heap.size w W->Calls Tryz.prog 86 #[pv] W fun e w'=>e=.returned (.bool true)/\Below W.heap.size W w')
  (hk:∀ W,Below w.heap.size w W->Calls Tryz.prog 88 #[pv] W fun e w'=>∃ a n c,e=.returned (.slice a n c)/\K w' (.slice a n c)/\Below W.heap.size W w')
  (m0:I64 nr) (k4:nr<4611686018427387904) (o8:0<=nr) (e0:∀ q ∈ R,q.1≠nr) (hF:∀ q ∈ F,q.1≠f) (hT:∀ q ∈ T,q.1≠t) (l8:N.length+R.length<65536) :
  Calls Tryz.prog 32 #[p.val,.int .i64 f,.int .i64 t,.string s,pv] w fun e w'=>e=.returned (.tuple #[.int .i64 nr,.int .i64 0])/\∃ M L O fv tv,GS w' p nn (nr+1) N (R++[(nr,.agg #[.int .i64 nr,.int .i64 f,.int .i64 t,.string s,.slice M L O])]) (F++[(f,fv)]) (T++[(t,tv)])/\w'.ownsRow w.heap.size 2 1 fv 1 [.int .i64 nr]/\(∃ b,w.heap.size<=b/\w'.ownsRow b 2 1 tv 1 [.int .i64 nr]/\∀ q,fv.ownBlock=some q->q<b)/\Below B w w':=by
 obtain ⟨qa,qn,qc,rfl⟩:=e1
 have HG:=Zb h
 have a3:Hid (∀ W,Below w.heap.size w W->Calls Tryz.prog 91 #[.pointer (some ⟨p.g,0,none⟩),.bool false,.int .i64 f] W fun e w'=>e=.returned (.bool true)/\Below W.heap.size W w'):=fun W d=>Zew (h.below d) hN hR hn hr f hf true a4
 have b7:Hid (∀ W,Below w.heap.size w W->Calls Tryz.prog 91 #[.pointer (some ⟨p.g,0,none⟩),.bool false,.int .i64 t] W fun e w'=>e=.returned (.bool true)/\Below W.heap.size W w'):=fun W d=>Zew (h.below d) hN hR hn hr t ht true c2
 have U:=Zb (Zcw h)
 have HA:=Zb ha
 have HS:=Zb hs
 have HK:=Zb hk
 have d0:=Zb b0
 have k2:=Zb e0
 have HF:=Zb hF
 have HT:=Zb hT
 have c7:p.g<w.heap.size/\p.n<w.heap.size/\p.r<w.heap.size/\p.f<w.heap.size/\p.t<w.heap.size:=⟨h.obj.lt,h.n.lt,h.r.lt,h.f.lt,h.t.lt⟩
 obtain ⟨u1,u2,u3,u4,u5⟩:=c7
 clear h hN hR hn hr ha hs a4 c2 hk b0 e0 hF hT
 unfold GP.val at U |-
 go_enter Tryz.func32,Tryz.ntmps32
 go_wp2_with fail
 refine U.out.mono ?_
 rintro e w1 ⟨rfl,a6⟩
 rw [a6]
 clear a6 U
 go_wp2_with fail
 refine (HA.out w (Below.refl _ _)).mono ?_
 rintro e w2 ⟨rfl,b4⟩
 have P:=Zb b4
 clear b4 HA
 go_wp2_with fail
 refine (HS.out w2 P.out).mono ?_
 rintro e w3 ⟨rfl,E⟩
 have D:=Zb (Za P.out E)
 clear E HS P
 go_wp2_with fail
 refine (a3.out w3 D.out).mono ?_
 rintro e w4 ⟨rfl,b2⟩
 have S:=Zb (Za D.out b2)
 clear b2 a3 D
 go_wp2_with fail
 refine (b7.out w4 S.out).mono ?_
 rintro e w5 ⟨rfl,I⟩
 have Q:=Zb (Za S.out I)
 clear I b7 S
 have c0:=Zb (HG.out.below Q.out)
 have e2:=Zb (Zqr c0.out l8 nr k4)
 unfold GP.val at e2
 have c3:=c0.out.c3
 go_wp2_with fail
 refine e2.out.mono ?_
 rintro e w6 ⟨rfl,h0⟩
 have V:=Zb (Za Q.out h0)
 have f1:=Zb (HG.out.below V.out)
 clear h0 c3 e2 c0 Q
 go_upto_region 9 with fail
 show (Code.region 9 Zj2 true).wp _ _ _ _
 refine Zwz p nr f t s (.slice qa qn qc) w6.heap.size K _ _ _ rfl ⟨rfl,rfl,rfl,rfl,rfl⟩ ?_ ?_
 ·intro W d
  exact ⟨(d.cell (p:=⟨p.g,3,none⟩) f1.out.obj.lt).trans f1.out.c3,d.size,HK.out W (Za V.out d)⟩
 rintro c W7 hS i9 ⟨M,L,O,e3,_⟩ ⟨X,f3,hX,g7⟩
 obtain ⟨W8,d8,b9⟩:=Jcg c.eval X W7 _ _ _ _ _ nr f t s M L O g7 f3 e3
 refine ⟨W8,d8,?_⟩
 clear d8
 rw [Zba hS [45,46,47,48,49,50,51,52,53,54,55,12] (by kernel_rfl)]
 obtain ⟨r9,f5⟩:∃ y,c.eval (.tmp 45)=y:=⟨_,rfl⟩
 obtain ⟨r7,i5⟩:∃ y,c.eval (.tmp 46)=y:=⟨_,rfl⟩
 obtain ⟨r3,l4⟩:∃ y,c.eval (.tmp 47)=y:=⟨_,rfl⟩
 obtain ⟨t5,k7⟩:∃ y,c.eval (.tmp 48)=y:=⟨_,rfl⟩
 obtain ⟨s0,g6⟩:∃ y,c.eval (.tmp 49)=y:=⟨_,rfl⟩
 obtain ⟨u6,g9⟩:∃ y,c.eval (.tmp 50)=y:=⟨_,rfl⟩
 obtain ⟨u0,j5⟩:∃ y,c.eval (.tmp 51)=y:=⟨_,rfl⟩
 obtain ⟨t0,j3⟩:∃ y,c.eval (.tmp 52)=y:=⟨_,rfl⟩
 obtain ⟨r6,h3⟩:∃ y,c.eval (.tmp 53)=y:=⟨_,rfl⟩
 obtain ⟨s5,k6⟩:∃ y,c.eval (.tmp 54)=y:=⟨_,rfl⟩
 obtain ⟨t3,e5⟩:∃ y,c.eval (.tmp 55)=y:=⟨_,rfl⟩
 obtain ⟨m6,a1⟩:∃ y,c.eval (.tmp 12)=y:=⟨_,rfl⟩
 simp only [List.foldl_cons,List.foldl_nil,f5,i5,l4,k7,g6,g9,j5,j3,h3,k6,e5,a1]
 rw [f3] at a1
 rw [e3] at e5
 subst a1 e5
 clear f5 i5 l4 k7 g6 g9 j5 j3 h3 k6
 simp only [List.setIfInBounds_toArray,List.set_cons_succ,List.set_cons_zero]
 clear f3 e3 hS
 have c9:Hid (Below w.heap.size w W8):=(V.out.trans (i9.mono V.out.size)).trans (b9.below.mono (Nat.le_trans V.out.size hX))
 have a7:Hid (GS W8 p nn nr N R F T):=HG.out.below c9.out
 have l:=Zb b9.r
 have r4:w.heap.size<=X:=Nat.le_trans V.out.size hX
 clear b9 g7 i9 hX V f1 HK
 go_upto_region 10 with fail
 show (Code.region 10 Zl2 true).wp _ _ _ _
 refine Ztm p nr f t s X M L O _ _ _ rfl ⟨rfl,rfl⟩ ?_ ?_
 ·intro W d
  exact ⟨(d.cell (p:=⟨p.g,1,none⟩) a7.out.obj.lt).trans a7.out.c1,(d.cell (p:=⟨X,0,none⟩) l.out.lt).trans (l.out.cell 0 rfl),(d.cell (p:=⟨X,1,none⟩) l.out.lt).trans (l.out.cell 1 rfl),(d.cell (p:=⟨X,2,none⟩) l.out.lt).trans (l.out.cell 2 rfl),(d.cell (p:=⟨X,3,none⟩) l.out.lt).trans (l.out.cell 3 rfl),(d.cell (p:=⟨X,4,none⟩) l.out.lt).trans (l.out.cell 4 rfl)⟩
 intro c W9 hS c8 m9 m2 o0
 obtain ⟨a9,b5,x,g5,u,b1⟩:=Zhj Tryz.underlying69' (a7.out.r.below c8 (Nat.le_refl _)) nr (.agg #[.int .i64 nr,.int .i64 f,.int .i64 t,.string s,.slice M L O]) m0 k2.out
 refine ⟨a9,?_,?_⟩
 ·generalize c.eval=ρ at *
  clear hS x u b1
  go_simp
 rw [Zba hS [56,57,58,59,60,61,62,63] (by kernel_rfl)]
 obtain ⟨q3,j2⟩:∃ y,c.eval (.tmp 56)=y:=⟨_,rfl⟩
 obtain ⟨p0,f6⟩:∃ y,c.eval (.tmp 57)=y:=⟨_,rfl⟩
 obtain ⟨u8,f9⟩:∃ y,c.eval (.tmp 58)=y:=⟨_,rfl⟩
 obtain ⟨o9,k8⟩:∃ y,c.eval (.tmp 59)=y:=⟨_,rfl⟩
 obtain ⟨s9,j6⟩:∃ y,c.eval (.tmp 60)=y:=⟨_,rfl⟩
 obtain ⟨s6,k3⟩:∃ y,c.eval (.tmp 61)=y:=⟨_,rfl⟩
 obtain ⟨t8,h9⟩:∃ y,c.eval (.tmp 62)=y:=⟨_,rfl⟩
 obtain ⟨r1,l0⟩:∃ y,c.eval (.tmp 63)=y:=⟨_,rfl⟩
 simp only [List.foldl_cons,List.foldl_nil,j2,f6,f9,k8,j6,k3,h9,l0]
 clear j2 f6 f9 k8 j6 k3 h9 l0
 simp only [List.setIfInBounds_toArray,List.set_cons_succ,List.set_cons_zero]
 clear hS m9 m2 o0 b5
 obtain ⟨o1,o2,o3,o4,o5,n1,n2,n3,n4,n5,n6,n7,n8,n9,e4⟩:=d0.out
 have a5:=Zb (a7.out.below c8)
 have d6:Hid (GS a9 p nn nr N (R++[(nr,.agg #[.int .i64 nr,.int .i64 f,.int .i64 t,.string s,.slice M L O])]) F T) :=
  ⟨a5.out.obj.keep (u _ n2),a5.out.n.block (u _ n5),x,a5.out.f.block (u _ (Ne.symm n8)),a5.out.t.block (u _ (Ne.symm n9))⟩
 have m:Hid (Rec a9 X #[.int .i64 nr,.int .i64 f,.int .i64 t,.string s,.slice M L O] 49):=(l.out.below c8 l.out.lt).keep (u _ (by omega))
 have c6:Hid (Below B w a9):=(c9.out.mono hB).trans ((c8.mono (by have:=c9.out.size;omega)).trans (b1.mono o3))
 have l1:w.heap.size<=a9.heap.size:=by have:=c6.out.size;omega
 clear x u b1 g5 c8 a5 a7 l c9
 have f2:=Zb (Ztk d6.out B d0.out (by omega) nr f t s M L O hf ht HF.out HT.out)
 unfold GP.val at f2
 have x0:=m.out.cell 0 rfl
 have x1:=m.out.cell 1 rfl
 have x2:=m.out.cell 2 rfl
 have x3:=m.out.cell 3 rfl
 have x4:=m.out.cell 4 rfl
 go_wp2_with fail
 refine f2.out.mono ?_
 rintro e l9 ⟨rfl,fv,tv,d7,g4,⟨bb,t2,g0,f4⟩,d9,d5⟩
 have i0:Hid (Rec l9 X #[.int .i64 nr,.int .i64 f,.int .i64 t,.string s,.slice M L O] 49):=m.out.keep (d5 _ m.out.lt (by omega) (by omega))
 have o:=Zb d7
 have n0:=Zb g4
 have m8:=Zb g0
 have m5:=Zb f4
 have h6:=Zb (c6.out.trans d9)
 clear x0 x1 x2 x3 x4 f2 d7 g4 g0 f4 d9 d5 m c6 d6
 have c3:=o.out.c3
 have z3:=o.out.obj.z 3
 have r0:IntKind.i64.wrap (nr+1)=nr+1:=by rw [IntKind.wrap_i64];omega
 go_upto_region 13 with fail
 generalize C:World.setCell _ _ _=W12
 have j9:Hid (Rec W12 X #[.int .i64 nr,.int .i64 f,.int .i64 t,.string s,.slice M L O] 49):=by rw [<- C];exact i0.out.other (by omega)
 have h8:Hid (GS W12 p nn (nr+1) N (R++[(nr,.agg #[.int .i64 nr,.int .i64 f,.int .i64 t,.string s,.slice M L O])]) (F++[(f,fv)]) (T++[(t,tv)])):=by
  rw [<- C]
  refine ⟨?_,o.out.n.block (Below.heap_setCell _ _ _ _ (Ne.symm n1)),o.out.r.block (Below.heap_setCell _ _ _ _ (Ne.symm n2)),o.out.f.block (Below.heap_setCell _ _ _ _ (Ne.symm n3)),o.out.t.block (Below.heap_setCell _ _ _ _ (Ne.symm n4))⟩
  have:=o.out.obj.set 3 (.int .i64 (nr+1))
  simpa [GP.cells] using this
 have h7:Hid (Below B w W12):=by rw [<- C];exact h6.out.setCell (p:=⟨p.g,3,none⟩) o1 _
 have f0:Hid (W12.ownsRow w.heap.size 2 1 fv 1 [.int .i64 nr]):=by
  rw [<- C]
  exact Zeq (Jf n0.out fun i hi _=>Below.heap_setCell _ _ _ _ (by show i≠p.g;omega)) l1
 have e8:Hid (W12.ownsRow bb 2 1 tv 1 [.int .i64 nr]):=by
  rw [<- C]
  exact Jf m8.out fun i hi _=>Below.heap_setCell _ _ _ _ (by show i≠p.g;omega)
 clear C c3 z3
 have x0:=j9.out.cell 0 rfl
 go_wp2_with fail
 go_ret2
 exact ⟨rfl,M,L,O,fv,tv,h8.out,f0.out,⟨bb,by omega,e8.out,m5.out⟩,h7.out⟩
end
section
open Go.RowKit
variable {P:Program} {ops:Array Oper} {Q:Exit->Act->World->Prop}
theorem Zps {base a:Act} (h:Zaf ops base a) {k:Nat} (hk:k<ops.size) (v:Value):Zaf ops base (a.put (Zv ops k) v):=by
 obtain ⟨h1,h2,h3⟩:=h
 cases m:Zv ops k with
 | none=>exact ⟨by simpa [Act.put] using h1,by simpa [Act.put] using h2,fun t M=>by simpa [Act.put] using h3 t M⟩
 | some d=>exact ⟨by simpa [Act.put] using h1,by simpa [Act.put] using h2,fun t M=>by
   have r:d≠t:=fun e=>M k hk (by rw [m,e])
   simpa [Act.put,Array.getElem?_setIfInBounds_ne r] using h3 t M⟩
theorem Zjc {A:Nat->List Nat} {F:Nat->Value->World->Prop} {base:Act} {u:World} {id:Nat} (k:Nat) (hk:k+1=ops.size)
  (hm:P.follows .mixedOrders=true) (g:Zge ops base.tmps.size A=true) (I:∀ i,i<k->∃ d,Zv ops i=some d) (D:∀ i,i<k->i ∈ A k)
  (q:∀ i v w w',F i v w->Below w.heap.size w w'->F i v w')
  (W:∀ i,i<k->∀ a w,Zaf ops base a->Below u.heap.size u w->(∀ j ∈ A i,F j (val ops a j) w)->Zbp P ops Q F i a w)
  (p:∀ a w,Zaf ops base a->Below u.heap.size u w->(∀ i,i<k->F i (val ops a i) w)->wpOp P ops Q k (fun s w'=>(∃ v,s=a.put (Zv ops k) v)/\Q .normal s w') a w) :
  (Code.region id ops true).wp P Q base u:=by
 refine Zfr (A:=A) (G:=fun _ _=>True) (S:=fun l vs w=>(l k=false->Below u.heap.size u w/\∀ i,l i=true->i<ops.size->F i (vs i) w)/\(l k=true->∀ b,Zaf ops base b->(∀ i,i<ops.size->val ops b i=vs i)->Q .normal b w)) hm g ⟨fun _=>⟨(Below.refl _ _).drew,fun i h=>(by cases h)⟩,fun h=>(by cases h)⟩ ?_ ?_
 ·rintro i z l a w C y T hA ⟨V,hK⟩
  have E:l k=false:=by
   cases h:l k with
   | false=>rfl
   | true =>
    by_cases e:i=k
    ·rw [e,h] at y;cases y
    ·have:=T k h i (D i (by omega));rw [y] at this;cases this
  obtain ⟨R,L⟩:=V E
  by_cases e:i=k
  ·subst e
   refine wpOp_mono ?_ (p a w C R fun j c=>L j (hA j (D j c)).1 (by omega))
   rintro s w' ⟨⟨v,rfl⟩,O⟩
   refine ⟨v,rfl,trivial,fun h=>?_,fun _ b a0 hv=>?_⟩
   ·rw [Zb4] at h;cases h
   ·have:b=a.put (Zv ops i) v:=Zqb a0 (Zps C z v) fun j c=>by
     rw [hv j c]
     by_cases ej:j=i
     ·subst ej;rw [Zb4]
     ·rw [Zat _ _ ej]
      unfold val
      cases hsj:Zv ops j with
      | none=>rfl
      | some d =>
       cases hsi:Zv ops i with
       | none=>simp [Act.put]
       | some d' =>
        have r:d'≠d:=fun e=>by
         obtain ⟨o,_,m,_,_,B,_⟩:=Zd3 g i z
         obtain ⟨o',_,a2,_,_,a4,_⟩:=Zd3 g j c
         rcases Nat.lt_or_gt_of_ne ej with h | h
         ·exact B j d' h (m▸hsi) (by rw [hsj,e])
         ·exact a4 i d h (a2▸hsj) (by rw [hsi,e])
        simp [Act.put,Act.eval,Array.getD_eq_getD_getElem?,Array.getElem?_setIfInBounds_ne r]
    rw [this];exact O
  ·have K:i<k:=by omega
   have x:∀ j ∈ A i,j<ops.size:=by
    have key:∀ n i,i<n->i<ops.size->∀ j ∈ A i,j<ops.size:=by
     intro n
     induction n with
     | zero=>intro i h;omega
     | succ n ih =>
      intro i h z j c
      obtain ⟨o,_,_,_,x,_,a3⟩:=Zd3 g i z
      obtain ⟨e,he,B,a5⟩:=a3 j c
      have h1:=x e he B
      rcases a5 with rfl | h2
      ·omega
      ·exact ih e.on (by omega) (by omega) j h2
    exact key (i+1) i (by omega) z
   refine wpOp_mono ?_ (W i K a w C R (fun j c=>L j (hA j c).1 (x j c)))
   rintro s w' ⟨v,rfl,X,B⟩
   obtain ⟨d,hd⟩:=I i K
   obtain ⟨o,N,m,U,_,_,_⟩:=Zd3 g i z
   have Y:d<a.tmps.size:=by rw [C.2.1];exact U d (m▸hd)
   have hv:=Zma N (m▸hd:o.dst=some d) Y v
   refine ⟨v,rfl,trivial,fun h=>⟨R.trans (B.mono R.size),fun j c a1=>?_⟩,fun h=>?_⟩
   ·by_cases ej:j=i
    ·subst ej;rw [Zb4,hv];exact X
    ·rw [Zat _ _ ej] at c |-
     exact q _ _ _ _ (L j c a1) B
   ·rw [Zat _ _ (Ne.symm e),E] at h;cases h
 ·rintro l a w C H ⟨L,hK⟩
  exact hK (H k (by omega)).1 a C fun _ _=>rfl
theorem Zn9 {k:Nat} {o:Oper} {a:Act} {w:World} {f:FuncId} {args:Array Value} (N:ops[k]?=some o) (hw:Region.wanted o (yielded ops a.tmps)=true)
  (hr:(execOp a.eval o).run P w=.ok (.enter f args) w) (hc:Calls P f args w fun e w'=>∃ v,e=.returned v/\Q .normal (a.put (Zv ops k) v) w'):wpOp P ops Q k (fun s w'=>(∃ v,s=a.put (Zv ops k) v)/\Q .normal s w') a w:=by
 unfold wpOp
 simp only [N,hw,if_true]
 refine .inl ?_
 unfold Oper.wp
 rw [hr,Oper.upon_enter]
 refine hc.mono ?_
 rintro e w' ⟨v,rfl,O⟩
 have m:Zv ops k=o.dst:=by simp [Zv,N]
 rw [m] at O |-
 exact ⟨⟨v,rfl⟩,O⟩
end
section
open Go.Shelf
def Tryz.laysDel_ren  : Go.Shelf.Ren:=⟨fun | 45=>180 | n=>n,fun | 22=>100 | 23=>2 | 3=>3 | 4=>4 | 0=>0 | n=>n,fun | n=>n⟩
theorem Tryz.laysDel  : Go.Proofs.SlLaysN.n45 Tryz.prog Tryz.laysDel_ren:={
 mixed:=by kernel_rfl
 f45:=⟨Tryz.f180.name,by decide,Tryz.func180.trans (congrArg some (by kernel_rfl))⟩
 t0:=Tryz.underlying0
 a0:=Tryz.isAgg0
 z0:=Tryz.sizeOf0
 v0:=Tryz.zeroValue0
 t3:=Tryz.underlying3
 a3:=Tryz.isAgg3
 z3:=Tryz.sizeOf3
 v3:=Tryz.zeroValue3
 t4:=Tryz.underlying4
 a4:=Tryz.isAgg4
 z4:=Tryz.sizeOf4
 v4:=Tryz.zeroValue4
 t22:=Tryz.underlying100
 a22:=Tryz.isAgg100
 z22:=Tryz.sizeOf100
 v22:=Tryz.zeroValue100
 t23:=Tryz.underlying2
 a23:=Tryz.isAgg2
 z23:=Tryz.sizeOf2
 v23:=Tryz.zeroValue2
 i23:=by kernel_rfl }
def Tryz.laysFind_ren  : Go.Shelf.Ren:=⟨fun | 49=>179 | 59=>199 | 60=>220 | 68=>235 | n=>n,fun | 22=>100 | 23=>2 | 3=>3 | 4=>4 | 51=>200 | 0=>0 | n=>n,fun | n=>n⟩
theorem Tryz.laysFind  : Go.Proofs.SlLaysN.n49 Tryz.prog Tryz.laysFind_ren:={
 mixed:=by kernel_rfl
 f49:=⟨Tryz.f179.name,by decide,Tryz.func179.trans (congrArg some (by kernel_rfl))⟩
 f59:=⟨Tryz.f199.name,by decide,Tryz.func199.trans (congrArg some (by kernel_rfl))⟩
 f60:=⟨Tryz.f220.name,by decide,Tryz.func220.trans (congrArg some (by kernel_rfl))⟩
 f68:=⟨Tryz.f235.name,by decide,Tryz.func235.trans (congrArg some (by kernel_rfl))⟩
 t0:=Tryz.underlying0
 a0:=Tryz.isAgg0
 z0:=Tryz.sizeOf0
 v0:=Tryz.zeroValue0
 t3:=Tryz.underlying3
 a3:=Tryz.isAgg3
 z3:=Tryz.sizeOf3
 v3:=Tryz.zeroValue3
 t4:=Tryz.underlying4
 a4:=Tryz.isAgg4
 z4:=Tryz.sizeOf4
 v4:=Tryz.zeroValue4
 t22:=Tryz.underlying100
 a22:=Tryz.isAgg100
 z22:=Tryz.sizeOf100
 v22:=Tryz.zeroValue100
 t23:=Tryz.underlying2
 a23:=Tryz.isAgg2
 z23:=Tryz.sizeOf2
 v23:=Tryz.zeroValue2
 t51:=Tryz.underlying200
 a51:=Tryz.isAgg200
 z51:=Tryz.sizeOf200
 v51:=Tryz.zeroValue200 }
open Go.Sort Go.RowKit in
theorem Tryz.slices_Delete_int (d off cap i j:Nat) (a:List Int) (w:World) (k:Holds (Value.int .i64) w d off a.toArray) (g:a.length<=cap) (r:cap<=9223372036854775807) (h:i<=j) (p:j<=a.length) :
  Calls Tryz.prog 180 #[.slice (some ⟨d,off,none⟩) a.length cap,.int .i64 i,.int .i64 j] w fun e w'=>e=.returned (.slice (some ⟨d,off,none⟩) (a.length - (j - i)) cap)/\∃ q,w'=putRow (Value.int .i64) (Sort.ahead w q) d off (a.take i++a.drop j++List.replicate (j - i) 0).toArray:=AnyG.slices_Delete_int Tryz.laysDel d off cap i j a w k g r h p
open Go.Sort Go.RowKit in
theorem Tryz.slices_BinarySearch_int (b off n c:Nat) (a:List Int) (x:Int) (w:World) (m:n<=a.length) (f:n<4611686018427387904) (l:∀ j,j<a.length->w.cell? ⟨b,off+j,none⟩=some (.int .i64 (a.getD j 0))) (o:(a.take n).Pairwise (·<=·)) :
  Calls Tryz.prog 179 #[.slice (some ⟨b,off,none⟩) n c,.int .i64 x] w fun e w'=>e=.returned (.tuple #[.int .i64 ((a.take n).countP (·<x):Nat),.bool ((a.take n).contains x)])/\∃ q,w'=w.drewN q:=AnyG.slices_BinarySearch_int Tryz.laysFind b off n c a x w m f l o
end
section
open Go.RowKit Go.Shelf Go.WideShapes
attribute [local go_sem] Oper.semAt_some
noncomputable def Zza  : Array Oper:=Zy Tryz.f92 1
def Jia  : List Sig:=[⟨4,.move (.tmp 0),31,none⟩,⟨5,.nilCheck (.tmp 4),0,none⟩,⟨6,.fieldAddr 74 (.tmp 5) 1,0,none⟩,⟨7,.load 72 (.tmp 6),72,none⟩,⟨8,.fieldAddr 49 (.tmp 3) 1,0,none⟩,⟨9,.load 2 (.tmp 8),2,none⟩,⟨10,.fieldAddr 49 (.tmp 3) 0,0,none⟩,⟨11,.load 2 (.tmp 10),2,none⟩]
theorem Jek  : (Jh Zza).take Jia.length=Jia.map some:=by kernel_rfl
def Zqj (i:Nat):List Nat:=nth [] [[],[0],[0,1],[0,1,2],[],[4],[],[6],[0,1,2,3,4,5,6,7]] i
def Zc7 (p:GP) (id k:Int) (X:Nat):List (Value->World->Prop) :=
 [eqv (.pointer (some ⟨p.g,0,none⟩)),eqv (.pointer (some ⟨p.g,0,none⟩)),eqv (.pointer (some ⟨p.g,4,none⟩)),eqv (.map (some p.f)),eqv (.pointer (some ⟨X,1,none⟩)),eqv (.int .i64 k),eqv (.pointer (some ⟨X,0,none⟩)),eqv (.int .i64 id)]
structure Zo7 (p:GP) (id k:Int) (X:Nat) (c:Act):Prop where
 t0:c.eval (.tmp 0)=.pointer (some ⟨p.g,0,none⟩)
 t3:c.eval (.tmp 3)=.pointer (some ⟨X,0,none⟩)
structure Zlh (p:GP) (id k:Int) (X:Nat) (w:World):Prop where
 cm:w.cell? ⟨p.g,4,none⟩=some (.map (some p.f))
 xk:w.cell? ⟨X,1,none⟩=some (.int .i64 k)
 xi:w.cell? ⟨X,0,none⟩=some (.int .i64 id)
theorem Zup (p:GP) (id k:Int) (X:Nat):∀ pr ∈ Zc7 p id k X,Zct pr:=by
 unfold Zc7
 iterate 8 (first | refine List.forall_mem_cons.2 ⟨Zal _,?_⟩)
 exact List.forall_mem_nil _
theorem Jel (p:GP) (id k:Int) (X:Nat) (Q:Exit->Act->World->Prop):∀ i,i<8->(fun i=>i ∉ ([]:List Nat)->∀ c w,Zo7 p id k X c->Zlh p id k X w->(∀ q0 ∈ Zqj i,Zg (Zc7 p id k X) q0 (val Zza c q0) w)->Zbp Tryz.prog Zza Q (Zg (Zc7 p id k X)) i c w) i:=by
 iterate 8 (refine Zd ?_ (by
  intro hn c w M m l
  first
  | exact absurd (by decide) hn
  | (have hEq:=Za5 Jek (by decide) l
     refine Zbb Jek (by decide) rfl (fun _=>rfl) ?_
     obtain ⟨t0,t3⟩:=M
     obtain ⟨cm,xk,xi⟩:=m
     have ec:=evc c
     have ef:=evf c
     dsimp only [Zqj,Jia,Zc7,nth,Zdj,Za2,eqv] at hEq |-
     refine .inl fun b6 af=>?_
     clear l hn
     dsimp only [Sig.oper]
     generalize c.eval=ρ at *
     go_simp
     done)))
 exact Zf
theorem Jem (p:GP) (id k:Int) (X:Nat) (Q:Exit->Act->World->Prop):∀ i,i<8->(fun i=>∀ c w,Zo7 p id k X c->Zlh p id k X w->(∀ q0 ∈ Zqj i,Zg (Zc7 p id k X) q0 (val Zza c q0) w)->Zbp Tryz.prog Zza Q (Zg (Zc7 p id k X)) i c w) i:=by
 intro i d
 exact Jel p id k X Q i d (by simp [*])
theorem Zuq (p:GP) (id k:Int) (X:Nat) (Q:Exit->Act->World->Prop) (base:Act) (w0:World) (a8:base.tmps.size=22) (M:Zo7 p id k X base)
  (m:∀ w,Below w0.heap.size w0 w->Zlh p id k X w) (hL:∀ c w,Zaf Zza base c->Below w0.heap.size w0 w->c.eval (.tmp 7)=.map (some p.f)->c.eval (.tmp 9)=.int .i64 k->c.eval (.tmp 11)=.int .i64 id->Calls Tryz.prog 141 #[.map (some p.f),.int .i64 k,.int .i64 id] w fun e w'=>∃ v,e=.returned v/\Q .normal (c.put (some 12) v) w'):(Code.region 1 Zza true).wp Tryz.prog Q base w0:=by
 have a0:(List.range 8).all (fun i=>(Zv Zza i).isSome)=true:=by kernel_rfl
 refine Zjc (A:=Zqj) (F:=Zg (Zc7 p id k X)) 8 (by kernel_rfl) (by kernel_rfl) (by rw [a8];kernel_rfl) ?_ (by decide) (fun i v w w'=>Jk (Zup p id k X) i v w w') ?_ ?_
 ·exact fun i d=>Option.isSome_iff_exists.1 (List.all_eq_true.1 a0 i (List.mem_range.2 d))
 ·intro i d c w u hB l
  exact Jem p id k X Q i d c w ⟨(Zc u (by kernel_rfl)).trans M.t0,(Zc u (by kernel_rfl)).trans M.t3⟩ (m w hB) l
 ·intro c w u hB l
  have e7:c.eval (.tmp 7)=.map (some p.f):=Zm (by kernel_rfl) rfl (l 3 (by omega))
  have e9:c.eval (.tmp 9)=.int .i64 k:=Zm (by kernel_rfl) rfl (l 5 (by omega))
  have a9:c.eval (.tmp 11)=.int .i64 id:=Zm (by kernel_rfl) rfl (l 7 (by omega))
  refine Zn9 (o:={ dst:=some 12,op:=Op.call { callee:=Callee.value (Operand.func 141),args:=#[Operand.tmp 7,Operand.tmp 9,Operand.tmp 11],argTypes:=#[72,2,2] },type:=0,b6 := "edit.go:131",after:=#[{ on:=3,ground:=Ground.data },{ on:=5,ground:=Ground.data },{ on:=7,ground:=Ground.data }],guard:=none }) (by kernel_rfl) (Zz rfl) (f:=141) (args:=#[.map (some p.f),.int .i64 k,.int .i64 id]) ?_ (hL c w u hB e7 e9 a9)
  have ef:=evf c
  have ec:=evc c
  clear l u hL M m
  generalize c.eval=ρ at *
  go_simp
noncomputable def Zzb  : Array Oper:=Zy Tryz.f92 2
def Jib  : List Sig:=[⟨13,.move (.tmp 0),31,none⟩,⟨14,.nilCheck (.tmp 13),0,none⟩,⟨15,.fieldAddr 74 (.tmp 14) 2,0,none⟩,⟨16,.load 72 (.tmp 15),72,none⟩,⟨17,.fieldAddr 49 (.tmp 3) 2,0,none⟩,⟨18,.load 2 (.tmp 17),2,none⟩,⟨19,.fieldAddr 49 (.tmp 3) 0,0,none⟩,⟨20,.load 2 (.tmp 19),2,none⟩]
theorem Jen  : (Jh Zzb).take Jib.length=Jib.map some:=by kernel_rfl
def Zqk (i:Nat):List Nat:=nth [] [[],[0],[0,1],[0,1,2],[],[4],[],[6],[0,1,2,3,4,5,6,7]] i
def Zc8 (p:GP) (id k:Int) (X:Nat):List (Value->World->Prop) :=
 [eqv (.pointer (some ⟨p.g,0,none⟩)),eqv (.pointer (some ⟨p.g,0,none⟩)),eqv (.pointer (some ⟨p.g,5,none⟩)),eqv (.map (some p.t)),eqv (.pointer (some ⟨X,2,none⟩)),eqv (.int .i64 k),eqv (.pointer (some ⟨X,0,none⟩)),eqv (.int .i64 id)]
structure Zo8 (p:GP) (id k:Int) (X:Nat) (c:Act):Prop where
 t0:c.eval (.tmp 0)=.pointer (some ⟨p.g,0,none⟩)
 t3:c.eval (.tmp 3)=.pointer (some ⟨X,0,none⟩)
structure Zli (p:GP) (id k:Int) (X:Nat) (w:World):Prop where
 cm:w.cell? ⟨p.g,5,none⟩=some (.map (some p.t))
 xk:w.cell? ⟨X,2,none⟩=some (.int .i64 k)
 xi:w.cell? ⟨X,0,none⟩=some (.int .i64 id)
theorem Zur (p:GP) (id k:Int) (X:Nat):∀ pr ∈ Zc8 p id k X,Zct pr:=by
 unfold Zc8
 iterate 8 (first | refine List.forall_mem_cons.2 ⟨Zal _,?_⟩)
 exact List.forall_mem_nil _
theorem Jeo (p:GP) (id k:Int) (X:Nat) (Q:Exit->Act->World->Prop):∀ i,i<8->(fun i=>i ∉ ([]:List Nat)->∀ c w,Zo8 p id k X c->Zli p id k X w->(∀ q0 ∈ Zqk i,Zg (Zc8 p id k X) q0 (val Zzb c q0) w)->Zbp Tryz.prog Zzb Q (Zg (Zc8 p id k X)) i c w) i:=by
 iterate 8 (refine Zd ?_ (by
  intro hn c w M m l
  first
  | exact absurd (by decide) hn
  | (have hEq:=Za5 Jen (by decide) l
     refine Zbb Jen (by decide) rfl (fun _=>rfl) ?_
     obtain ⟨t0,t3⟩:=M
     obtain ⟨cm,xk,xi⟩:=m
     have ec:=evc c
     have ef:=evf c
     dsimp only [Zqk,Jib,Zc8,nth,Zdj,Za2,eqv] at hEq |-
     refine .inl fun b6 af=>?_
     clear l hn
     dsimp only [Sig.oper]
     generalize c.eval=ρ at *
     go_simp
     done)))
 exact Zf
theorem Jep (p:GP) (id k:Int) (X:Nat) (Q:Exit->Act->World->Prop):∀ i,i<8->(fun i=>∀ c w,Zo8 p id k X c->Zli p id k X w->(∀ q0 ∈ Zqk i,Zg (Zc8 p id k X) q0 (val Zzb c q0) w)->Zbp Tryz.prog Zzb Q (Zg (Zc8 p id k X)) i c w) i:=by
 intro i d
 exact Jeo p id k X Q i d (by simp [*])
theorem Zus (p:GP) (id k:Int) (X:Nat) (Q:Exit->Act->World->Prop) (base:Act) (w0:World) (a8:base.tmps.size=22) (M:Zo8 p id k X base)
  (m:∀ w,Below w0.heap.size w0 w->Zli p id k X w) (hL:∀ c w,Zaf Zzb base c->Below w0.heap.size w0 w->c.eval (.tmp 16)=.map (some p.t)->c.eval (.tmp 18)=.int .i64 k->c.eval (.tmp 20)=.int .i64 id->Calls Tryz.prog 141 #[.map (some p.t),.int .i64 k,.int .i64 id] w fun e w'=>∃ v,e=.returned v/\Q .normal (c.put (some 21) v) w'):(Code.region 2 Zzb true).wp Tryz.prog Q base w0:=by
 have a0:(List.range 8).all (fun i=>(Zv Zzb i).isSome)=true:=by kernel_rfl
 refine Zjc (A:=Zqk) (F:=Zg (Zc8 p id k X)) 8 (by kernel_rfl) (by kernel_rfl) (by rw [a8];kernel_rfl) ?_ (by decide) (fun i v w w'=>Jk (Zur p id k X) i v w w') ?_ ?_
 ·exact fun i d=>Option.isSome_iff_exists.1 (List.all_eq_true.1 a0 i (List.mem_range.2 d))
 ·intro i d c w u hB l
  exact Jep p id k X Q i d c w ⟨(Zc u (by kernel_rfl)).trans M.t0,(Zc u (by kernel_rfl)).trans M.t3⟩ (m w hB) l
 ·intro c w u hB l
  have a7:c.eval (.tmp 16)=.map (some p.t):=Zm (by kernel_rfl) rfl (l 3 (by omega))
  have b3:c.eval (.tmp 18)=.int .i64 k:=Zm (by kernel_rfl) rfl (l 5 (by omega))
  have b7:c.eval (.tmp 20)=.int .i64 id:=Zm (by kernel_rfl) rfl (l 7 (by omega))
  refine Zn9 (o:={ dst:=some 21,op:=Op.call { callee:=Callee.value (Operand.func 141),args:=#[Operand.tmp 16,Operand.tmp 18,Operand.tmp 20],argTypes:=#[72,2,2] },type:=0,b6 := "edit.go:132",after:=#[{ on:=3,ground:=Ground.data },{ on:=5,ground:=Ground.data },{ on:=7,ground:=Ground.data }],guard:=none }) (by kernel_rfl) (Zz rfl) (f:=141) (args:=#[.map (some p.t),.int .i64 k,.int .i64 id]) ?_ (hL c w u hB a7 b3 b7)
  have ef:=evf c
  have ec:=evc c
  clear l u hL M m
  generalize c.eval=ρ at *
  go_simp
structure Jch (b Y:Nat) (w w':World):Prop where
 os:w'.os=w.os
 tape:w'.tape=w.tape
 output:w'.output=w.output
 size:w'.heap.size=w.heap.size
 other:∀ i,i≠b->i≠Y->w'.heap[i]?=w.heap[i]?
theorem Jch.below {b Y B:Nat} {w w':World} (h:Jch b Y w w') (h1:B<=b) (h2:B<=Y):Below B w w':=⟨h.os,h.tape,h.output,by rw [h.size];exact Nat.le_refl _,fun i d=>h.other i (by omega) (by omega)⟩
theorem Zkc {w:World} {b:Nat} {es:List (Int × Value)} (h:MI w b es) (j:Nat) (k id:Int) (Y off c:Nat) (hj:es[j]?=some (k,.slice (some ⟨Y,off,none⟩) 1 c)) (hu:∀ i p,es[i]?=some p->p.1=k->i=j) (hk:I64 k) (hc:w.cell? ⟨Y,off,none⟩=some (.int .i64 id)) (hz:w.frozen? ⟨Y,off,none⟩=false) (f8:1<=c) (g0:c<=9223372036854775807) (f9:Y≠b) :
  Calls Tryz.prog 141 #[.map (some b),.int .i64 k,.int .i64 id] w fun e w'=>e=.returned (.tuple #[])/\MI w' b (es.eraseIdx j)/\Jch b Y w w':=by
 have HM:=Zb h
 have HU:=Zb hu
 have HJ:=Zb hj
 have a6:(k,Value.slice (some ⟨Y,off,none⟩) 1 c) ∈ es:=List.mem_of_getElem? hj
 have lk:=(Zk7 (z:=.slice none 0 0) Tryz.underlying72' h k (.slice (some ⟨Y,off,none⟩) 1 c) hk a6 (fun p hp e=>by
  obtain ⟨i,d,he⟩:=List.mem_iff_getElem.1 hp
  have h1:es[i]?=some p:=by rw [List.getElem?_eq_getElem d,he]
  have:=hu i p h1 e
  subst this
  rw [hj] at h1
  cases h1;rfl)).2
 have b0:=Tryz.slices_BinarySearch_int Y off 1 c [id] id w (by simp) (by omega) (fun i d=>by
  have:i=0:=by simp at d;omega
  subst this
  simpa using hc) (by simp)
 have e0:(([id].take 1).countP (·<id):Nat)=0:=by simp
 have e1:([id].take 1).contains id=true:=by simp
 rw [e0,e1] at b0
 have f7:=Zb b0
 have L:=hc
 have e4:=hz
 have b8:=Zb (And.intro L e4)
 clear h hu hj b0 e0 e1 L e4 hc hz a6
 go_enter Tryz.func141,Tryz.ntmps141
 go_wp2_with fail
 refine f7.out.mono ?_
 rintro e w1 ⟨rfl,q,a3⟩
 have hD:=Tryz.slices_Delete_int Y off c 0 1 [id] w1 (fun i d=>by
  have:i=0:=by simp at d;omega
  subst this
  rw [a3]
  exact ⟨by simpa using b8.out.1,b8.out.2⟩) (by simpa using f8) g0 (by omega) (by simp)
 have HD:Hid (Calls Tryz.prog 180 #[.slice (some ⟨Y,off,none⟩) 1 c,.int .i64 0,.int .i64 1] w1 fun e w'=>e=.returned (.slice (some ⟨Y,off,none⟩) 0 c)/\∃ q,w'=Sort.putRow (Value.int .i64) (Sort.ahead w1 q) Y off #[0]):=by
  show Calls _ _ _ _ _
  simpa using hD
 have e5:Hid (MI w1 b es):=by rw [a3];exact HM.out.block rfl
 have I:Hid (Jch b Y w w1):=by rw [a3];exact ⟨rfl,rfl,rfl,rfl,fun _ _ _=>rfl⟩
 clear hD a3 f7 b8 lk
 go_wp2_with fail
 refine HD.out.mono ?_
 rintro e w2 ⟨rfl,q2,b4⟩
 have E:Hid (Jch b Y w w2):=by
  rw [b4]
  refine ⟨I.out.os,I.out.tape,I.out.output,by simpa [Sort.ahead] using I.out.size,fun i h1 h2=>?_⟩
  rw [<- I.out.other i h1 h2]
  simp [Sort.putRow,Sort.mapBlock,Sort.ahead,Array.getElem?_modify,Ne.symm h2]
 have f5:Hid (MI w2 b es):=by
  refine e5.out.block ?_
  rw [b4]
  simp [Sort.putRow,Sort.mapBlock,Sort.ahead,Array.getElem?_modify,f9]
 clear b4 e5 I HD
 obtain ⟨w3,h4,U,f0,d1,a1⟩:=Jce Tryz.underlying72' f5.out j k (.slice (some ⟨Y,off,none⟩) 1 c) (.slice (some ⟨Y,off,none⟩) 0 c) hk HJ.out HU.out
 have c1:=Zb U
 have H:Hid (Jch b Y w w3):=⟨a1.os.trans E.out.os,a1.tape.trans E.out.tape,a1.output.trans E.out.output,f0.trans E.out.size,fun i h1 h2=>(d1 i h1).trans (E.out.other i h1 h2)⟩
 clear U f0 d1 a1 f5 E
 have d6:j<es.length:=(List.getElem?_eq_some_iff.1 HJ.out).1
 obtain ⟨w4,g9,d3,d9,e6,a5⟩:=Zsk (ty:=0) Tryz.underlying72' c1.out j k (.slice (some ⟨Y,off,none⟩) 0 c) hk (by simp [d6]) (fun i p hp e=>by
  by_cases hij:j=i
  ·exact hij.symm
  ·rw [List.getElem?_set_ne hij] at hp
   exact HU.out i p hp e)
 have g7:Hid (MI w4 b (es.eraseIdx j)):=by
  have e:(es.set j (k,Value.slice (some ⟨Y,off,none⟩) 0 c)).eraseIdx j=es.eraseIdx j:=by
   apply List.ext_getElem?
   intro i
   simp only [List.getElem?_eraseIdx]
   split
   ·rw [List.getElem?_set_ne (by omega)]
   ·rw [List.getElem?_set_ne (by omega)]
  show MI _ _ _
  rw [<- e];exact d3
 have g2:Hid (Jch b Y w w4):=⟨a5.os.trans H.out.os,a5.tape.trans H.out.tape,a5.output.trans H.out.output,d9.trans H.out.size,fun i h1 h2=>(e6 i h1).trans (H.out.other i h1 h2)⟩
 clear d3 d9 e6 a5 H c1 d6
 go_wp2_with fail
 exact bodyPost_end (v:=.tuple #[]) (by simp [results,Tryz.results141,go_sem]) rfl ⟨rfl,g7.out,g2.out⟩
theorem Zsu {w:World} {p:GP} {nn nr:Int} {N R F T:List (Int × Value)} (h:GS w p nn nr N R F T) (B:Nat) (d7:p.Ok B) (hB:B<=w.heap.size) (id f t:Int) (s:ByteArray) (pa:Option Addr) (pn pc:Nat) (hf:I64 f) (ht:I64 t)
  (i j Y Z yo zo yc zc:Nat) (d:F[i]?=some (f,.slice (some ⟨Y,yo,none⟩) 1 yc)) (hj:T[j]?=some (t,.slice (some ⟨Z,zo,none⟩) 1 zc)) (c6:∀ a q,F[a]?=some q->q.1=f->a=i) (d8:∀ a q,T[a]?=some q->q.1=t->a=j)
  (y0:w.cell? ⟨Y,yo,none⟩=some (.int .i64 id)) (y1:w.frozen? ⟨Y,yo,none⟩=false) (z0:w.cell? ⟨Z,zo,none⟩=some (.int .i64 id)) (z1:w.frozen? ⟨Z,zo,none⟩=false) (e8:1<=yc/\yc<=9223372036854775807) (c8:1<=zc/\zc<=9223372036854775807)
  (hY:Y≠p.g/\Y≠p.n/\Y≠p.r/\Y≠p.f/\Y≠p.t/\B<=Y) (hZ:Z≠p.g/\Z≠p.n/\Z≠p.r/\Z≠p.f/\Z≠p.t/\B<=Z) (g3:Y≠Z) :
  Calls Tryz.prog 92 #[p.val,.agg #[.int .i64 id,.int .i64 f,.int .i64 t,.string s,.slice pa pn pc]] w fun e w'=>e=.returned (.tuple #[])/\GS w' p nn nr N R (F.eraseIdx i) (T.eraseIdx j)/\Below B w w':=by
 have HG:=Zb h
 have g4:=Zb d7
 have HI:=Zb (And.intro d c6)
 have HJ:=Zb (And.intro hj d8)
 have HY:=Zb (And.intro y0 (And.intro y1 e8))
 have HZ:=Zb (And.intro z0 (And.intro z1 c8))
 have d2:Y<w.heap.size:=Zaq y0
 have g1:Z<w.heap.size:=Zaq z0
 obtain ⟨Y1,Y2,Y3,Y4,Y5,Y6⟩:=hY
 obtain ⟨Z1,Z2,Z3,Z4,Z5,Z6⟩:=hZ
 clear h d7 d hj c6 d8 y0 y1 z0 z1 e8 c8
 unfold GP.val
 go_enter Tryz.func92,Tryz.ntmps92
 go_upto_region 1 with fail
 generalize b5:World.alloc _ _=W1
 have b1:Hid (Below w.heap.size w W1):=by rw [<- b5];exact (Below.refl _ _).alloc (Nat.le_refl _) _
 have D:Hid (Rec W1 w.heap.size #[.int .i64 id,.int .i64 f,.int .i64 t,.string s,.slice pa pn pc] 49):=by rw [<- b5];exact Zl _ _ _
 have K:=Zb (HG.out.below b1.out)
 clear b5
 show (Code.region 1 Zza true).wp _ _ _ _
 refine Zuq p id f w.heap.size _ _ _ rfl ⟨rfl,rfl⟩ ?_ ?_
 ·intro W m
  exact ⟨(m.cell (p:=⟨p.g,4,none⟩) K.out.obj.lt).trans K.out.c4,(m.cell (p:=⟨w.heap.size,1,none⟩) D.out.lt).trans (D.out.cell 1 rfl),(m.cell (p:=⟨w.heap.size,0,none⟩) D.out.lt).trans (D.out.cell 0 rfl)⟩
 intro c W2 u S e7 e9 a9
 have x:=Za b1.out S
 refine (Zkc (K.out.f.below S (Nat.le_refl _)) i f id Y yo yc HI.out.1 HI.out.2 hf ((x.cell (p:=⟨Y,yo,none⟩) d2).trans HY.out.1) ((x.frozen (p:=⟨Y,yo,none⟩) d2).trans HY.out.2.1) HY.out.2.2.1 HY.out.2.2.2 Y4).mono ?_
 rintro e W3 ⟨rfl,U,C⟩
 refine ⟨_,rfl,?_⟩
 rw [Zba u [4,5,6,7,8,9,10,11,12] (by kernel_rfl)]
 obtain ⟨y4,q4⟩:∃ y,c.eval (.tmp 4)=y:=⟨_,rfl⟩
 obtain ⟨y5,q5⟩:∃ y,c.eval (.tmp 5)=y:=⟨_,rfl⟩
 obtain ⟨y6,q6⟩:∃ y,c.eval (.tmp 6)=y:=⟨_,rfl⟩
 obtain ⟨y7,q7⟩:∃ y,c.eval (.tmp 7)=y:=⟨_,rfl⟩
 obtain ⟨y8,q8⟩:∃ y,c.eval (.tmp 8)=y:=⟨_,rfl⟩
 obtain ⟨y9,q9⟩:∃ y,c.eval (.tmp 9)=y:=⟨_,rfl⟩
 obtain ⟨h3,f6⟩:∃ y,c.eval (.tmp 10)=y:=⟨_,rfl⟩
 obtain ⟨h0,c7⟩:∃ y,c.eval (.tmp 11)=y:=⟨_,rfl⟩
 obtain ⟨i0,d5⟩:∃ y,c.eval (.tmp 12)=y:=⟨_,rfl⟩
 simp only [List.foldl_cons,List.foldl_nil,q4,q5,q6,q7,q8,q9,f6,c7,d5]
 clear q4 q5 q6 q7 q8 q9 f6 c7 d5
 simp only [Act.put,List.setIfInBounds_toArray,List.set_cons_succ,List.set_cons_zero]
 clear u e7 e9 a9
 obtain ⟨o1,o2,o3,o4,o5,n1,n2,n3,n4,n5,n6,n7,n8,n9,d4⟩:=g4.out
 have O:=Zb (K.out.below S)
 have u1:=HG.out.obj.lt
 have u4:=HG.out.f.lt
 have u5:=HG.out.t.lt
 have a2:Hid (GS W3 p nn nr N R (F.eraseIdx i) T) :=
  ⟨O.out.obj.keep (C.other _ n3 (Ne.symm Y1)),O.out.n.block (C.other _ n6 (Ne.symm Y2)),O.out.r.block (C.other _ n8 (Ne.symm Y3)),U,O.out.t.block (C.other _ (Ne.symm d4) (Ne.symm Y5))⟩
 have a4:Hid (Rec W3 w.heap.size #[.int .i64 id,.int .i64 f,.int .i64 t,.string s,.slice pa pn pc] 49):=(D.out.below S D.out.lt).keep (C.other _ (by omega) (by omega))
 have b2:Hid (Below B w W3):=(x.mono hB).trans (C.below o4 Y6)
 have g8:Hid (W3.heap[Z]?=w.heap[Z]?):=(C.other Z Z4 (Ne.symm g3)).trans (x.block Z g1)
 clear U C O K b1 D S x
 go_upto_region 2 with fail
 show (Code.region 2 Zzb true).wp _ _ _ _
 refine Zus p id t w.heap.size _ _ _ rfl ⟨rfl,rfl⟩ ?_ ?_
 ·intro W m
  exact ⟨(m.cell (p:=⟨p.g,5,none⟩) a2.out.obj.lt).trans a2.out.c5,(m.cell (p:=⟨w.heap.size,2,none⟩) a4.out.lt).trans (a4.out.cell 2 rfl),(m.cell (p:=⟨w.heap.size,0,none⟩) a4.out.lt).trans (a4.out.cell 0 rfl)⟩
 intro c W4 u V a7 b3 b7
 have e3:Z<W3.heap.size:=by have:=b2.out.size;omega
 have b9:W4.heap[Z]?=w.heap[Z]?:=(V.block Z e3).trans g8.out
 refine (Zkc (a2.out.t.below V (Nat.le_refl _)) j t id Z zo zc HJ.out.1 HJ.out.2 ht ((World.cell?_of_block (a:=⟨Z,zo,none⟩) b9).trans HZ.out.1) ((World.frozen?_of_block (a:=⟨Z,zo,none⟩) b9).trans HZ.out.2.1) HZ.out.2.2.1 HZ.out.2.2.2 Z5).mono ?_
 rintro e W5 ⟨rfl,c9,G⟩
 refine ⟨_,rfl,?_⟩
 rw [Zba u [13,14,15,16,17,18,19,20,21] (by kernel_rfl)]
 obtain ⟨i2,c3⟩:∃ y,c.eval (.tmp 13)=y:=⟨_,rfl⟩
 obtain ⟨h9,f1⟩:∃ y,c.eval (.tmp 14)=y:=⟨_,rfl⟩
 obtain ⟨h5,f4⟩:∃ y,c.eval (.tmp 15)=y:=⟨_,rfl⟩
 obtain ⟨i1,f2⟩:∃ y,c.eval (.tmp 16)=y:=⟨_,rfl⟩
 obtain ⟨i3,c2⟩:∃ y,c.eval (.tmp 17)=y:=⟨_,rfl⟩
 obtain ⟨h8,c0⟩:∃ y,c.eval (.tmp 18)=y:=⟨_,rfl⟩
 obtain ⟨i4,f3⟩:∃ y,c.eval (.tmp 19)=y:=⟨_,rfl⟩
 obtain ⟨h7,e2⟩:∃ y,c.eval (.tmp 20)=y:=⟨_,rfl⟩
 obtain ⟨h6,d0⟩:∃ y,c.eval (.tmp 21)=y:=⟨_,rfl⟩
 simp only [List.foldl_cons,List.foldl_nil,c3,f1,f4,f2,c2,c0,f3,e2,d0]
 clear c3 f1 f4 f2 c2 c0 f3 e2 d0
 simp only [Act.put,List.setIfInBounds_toArray,List.set_cons_succ,List.set_cons_zero]
 clear u a7 b3 b7 b9
 have P:=Zb (a2.out.below V)
 have g6:Hid (GS W5 p nn nr N R (F.eraseIdx i) (T.eraseIdx j)) :=
  ⟨P.out.obj.keep (G.other _ n4 (Ne.symm Z1)),P.out.n.block (G.other _ n7 (Ne.symm Z2)),P.out.r.block (G.other _ n9 (Ne.symm Z3)),P.out.f.block (G.other _ d4 (Ne.symm Z4)),c9⟩
 have g5:Hid (Below B w W5):=(b2.out.trans (V.mono (by have:=b2.out.size;omega))).trans (G.below o5 Z6)
 clear c9 G P V
 go_wp2_with fail
 exact bodyPost_end (v:=.tuple #[]) (by simp [results,Tryz.results92,go_sem]) rfl ⟨rfl,g6.out,g5.out⟩
end
