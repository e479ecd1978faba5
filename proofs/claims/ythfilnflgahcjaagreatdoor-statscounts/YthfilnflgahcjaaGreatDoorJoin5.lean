/- The first row of each key. What is reckoned from counts: all nodes, those with labels. The first row of each key. Something of each row. What is reckoned from counts: relationships of types. -/
import Derived.Test.YthfilnflgahcjaaGreatDoorJoin4
import Derived.Deep.Cut
namespace Go.Proofs.YthfilnflgahcjaaGreatDoor
open Go.RowKit Go.Shelf Go.Maps
set_option linter.all false
attribute [local go_sem] Oper.semAt_some
set_option maxRecDepth 100000 in
set_option maxHeartbeats 4000000 in
theorem Jeg (b:List (ByteArray × Int)) (keys:List (ByteArray)) (vr vk:Value) (B:Nat) (w:World) (hB:B<=w.heap.size) (hr:Zal 2 Za0 B w vr b) (hk:Zal 1 Zap B w vk keys) (b2:∀ x ∈ b,okS x.1) (b4:∀ x ∈ keys,okS x) (e5:b.length<=100000) (e8:keys.length<=100000) :
  Calls Tryz.prog 55 #[vr,.func (.func 56) #[] #[],vk] w fun e w'=>∃ v,e=.returned v/\Jb 42 2 Za0 w.heap.size w' v (Ji Prod.fst (⟨#[]⟩,0) b keys)/\Below w.heap.size w w':=by
 obtain ⟨ra,rc,rfl,r1,r2,r3⟩:=hr
 obtain ⟨ka,kc,rfl,k1,k2,k3⟩:=hk
 have d8:=Za r3
 have e9:=Za k3
 have f2:=Za b2
 have e4:=Za b4
 obtain ⟨m,hm⟩:∃ n,b.length=n:=⟨_,rfl⟩
 obtain ⟨n,hn⟩:∃ n,keys.length=n:=⟨_,rfl⟩
 have HM:=Za hm
 have HN:=Za hn
 rw [hm] at r1 e5 |-
 rw [hn] at k1 e8 |-
 clear r3 k3 b2 b4 hm hn
 have f3:∀ W:World,(Instr.makeMap 163 none).run Tryz.prog W=.ok (.map (some W.heap.size)) (W.alloc (.map #[] 0)):=fun W=>rfl
 go_enter Tryz.func55,Tryz.ntmps55
 go_wp2_with fail
 go_loopw [18] (fun i wr=>∃ j:Nat,j<=n/\i=.int .i64 j/\wr.heap.size=w.heap.size+1/\Below w.heap.size w wr/\MS Zke okS wr w.heap.size ((keys.take j).foldl Zhs [])) (fun i _=>n - (intOf i).toNat)
 case atStart=>exact ⟨0,Nat.zero_le _,rfl,by simp,(Below.refl _ _).alloc (Nat.le_refl _) _,Zc9 _⟩
 case round =>
  obtain ⟨j,hj,rfl,D,G,F⟩:=hrel
  have a8:=Za G
  have a3:=Za F
  have c7:=Za D
  clear G F D
  by_cases hlt:j<n
  ·have y:(j:Int)<n:=by omega
   obtain ⟨x,k⟩:∃ q,keys[j]?=some q:=⟨_,List.getElem?_eq_getElem (by have:=HN.out;omega)⟩
   obtain ⟨bl,off,rfl,e3,hc⟩:=e9.out.resolve_left (by intro e;rw [e] at k;simp at k)
   have cx:=(a8.out.cell (p:=⟨bl,off+j*1+0,none⟩) (show bl<w.heap.size by omega)).trans (hc j x k 0 _ rfl)
   rw [Nat.mul_one,Nat.add_zero] at cx
   have HX:=Za k
   obtain ⟨W,q1,q2,q3,q4,q5⟩:=Zuc Jay Zhb a3.out (Zbo _ _ List.nodup_nil) x (e4.out _ (List.mem_of_getElem? k))
   simp only [Zke] at q1
   have HQ:=Za (And.intro q2 (And.intro q3 q5))
   clear k hc q2 q3 q4 q5
   go_wp2_with fail
   go_roundw
   case rel=>exact ⟨j+1,by omega,by go_num,by rw [HQ.out.2.1];exact c7.out,a8.out.trans HQ.out.2.2,by rw [Znp HX.out];exact HQ.out.1⟩
   case measure=>simp [intOf];omega
  ·have y:¬ (j:Int)<n:=by omega
   have HL:=a3.out
   rw [List.take_of_length_le (by have:=HN.out;omega)] at HL
   obtain ⟨W0,f0⟩:∃ W0,W0=wr:=⟨_,rfl⟩
   subst f0
   obtain ⟨P,o⟩:∃ l,keys.foldl Zhs []=l:=⟨_,rfl⟩
   have e7:Hid (P.Nodup):=by show _;rw [<- o];exact Zbo _ _ List.nodup_nil
   have e0:Hid (P.length<=100000):=by
    have:=Zex keys ([]:List (ByteArray))
    rw [o] at this
    have h2:=HN.out
    show P.length<=100000
    simp only [List.length_nil] at this;omega
   have c8:Hid (Ji Prod.fst (⟨#[]⟩,0) b keys=(Zy Prod.fst b P).1++List.replicate (Zy Prod.fst b P).2.length (⟨#[]⟩,0)):=by
    show _=_
    unfold Ji
    rw [o]
   rw [o] at HL
   have HL:=Za HL
   clear o a3
   have b8:Hid (∀ (W:World) (v:Value) (out:List (ByteArray × Int)) (left:List (ByteArray)),Below w.heap.size w W->w.heap.size+1<=W.heap.size->Jb 42 2 Za0 (w.heap.size+1) W v out->out.length+left.length<=100000->∃ v' Q,(Builtin.append_ #[28,3] 28 #[v,.int .i64 left.length]).run Tryz.prog W=.ok v' Q/\Jb 42 2 Za0 w.heap.size Q v' (out++List.replicate left.length (⟨#[]⟩,0))/\Below w.heap.size w Q):=by
    intro W v out left hb hs ho hl
    obtain ⟨v',Q,p1,p2,p3⟩:=Zd8 (ty:=28) (tn:=3) (x:=((⟨#[]⟩,0):ByteArray × Int)) (m:=left.length) Ztq Tryz.underlying3 (fun x=>rfl) Zf9 rfl ho (by omega) hs
    exact ⟨v',Q,p1,p2.base (by omega),hb.trans (p3.mono (by omega))⟩
   go_wp2_with fail
   go_loopw [10,28] (fun v i wr=>∃ (j:Nat) (out:List (ByteArray × Int)) (left:List (ByteArray)),j<=m/\i=.int .i64 j/\w.heap.size+1<=wr.heap.size/\Below w.heap.size w wr/\MS Zke okS wr w.heap.size left/\left.Nodup/\Jb 42 2 Za0 (w.heap.size+1) wr v out/\out.length+left.length<=100000/\out++(Zy Prod.fst (b.drop j) left).1=(Zy Prod.fst b P).1/\(Zy Prod.fst (b.drop j) left).2=(Zy Prod.fst b P).2) (fun _ i _=>m - (intOf i).toNat)
   case atStart=>exact ⟨0,[],P,Nat.zero_le _,rfl,by rw [c7.out];exact Nat.le_refl _,a8.out,HL.out,e7.out,Jo _ _ _ _ _,by have:=e0.out;simpa using this,rfl,rfl⟩
   case round =>
    obtain ⟨j,out,left,hj,rfl,D,G,F,b6,c9,b7,e1,e2⟩:=hrel
    have r:=Za G
    have R:=Za F
    have b1:=Za c9
    have a9:=Za b6
    have b5:=Za D
    have E:=Za b7
    have HE:=Za (And.intro e1 e2)
    clear G F c9 b6 D b7 e1 e2
    by_cases hlt:j<m
    ·have y:(j:Int)<m:=by omega
     obtain ⟨⟨s,q⟩,k⟩:∃ q,b[j]?=some q:=⟨_,List.getElem?_eq_getElem (by have:=HM.out;omega)⟩
     obtain ⟨bl,off,rfl,e3,hc⟩:=d8.out.resolve_left (by intro e;rw [e] at k;simp at k)
     have c0:=(r.out.cell (p:=⟨bl,off+j*2+0,none⟩) (show bl<w.heap.size by omega)).trans (hc j (s,q) k 0 _ rfl)
     have c1:=(r.out.cell (p:=⟨bl,off+j*2+1,none⟩) (show bl<w.heap.size by omega)).trans (hc j (s,q) k 1 _ rfl)
     rw [Nat.add_zero] at c0
     simp only at c0 c1
     have HX:=Za k
     clear k hc
     go_upto_region 11 with fail
     have g0:(wr.alloc (.cells #[.string s,.int .i64 q] 42)).cell? ⟨wr.heap.size,0,none⟩=some _:=Zh _ _ _ _ _ rfl
     have g1:(wr.alloc (.cells #[.string s,.int .i64 q] 42)).cell? ⟨wr.heap.size,1,none⟩=some _:=Zh _ _ _ _ _ rfl
     have t:Below wr.heap.size wr (wr.alloc (.cells #[.string s,.int .i64 q] 42)):=(Below.refl _ _).alloc (Nat.le_refl _) _
     obtain ⟨V,U⟩:∃ W,wr.alloc (.cells #[.string s,.int .i64 q] 42)=W:=⟨_,rfl⟩
     have a0:wr.heap.size<V.heap.size:=by rw [<- U];simp
     rw [U] at g0 g1 t |-
     clear U c0 c1
     have C:Hid (MS Zke okS V w.heap.size left):=R.out.block (t.block _ R.out.lt)
     have d0:Hid (Jb 42 2 Za0 (w.heap.size+1) V _ out):=b1.out.below t
     have a4:=Za (r.out.trans (t.mono r.out.size))
     have L:=Za a0
     obtain ⟨X,hX⟩:∃ X,wr.heap.size=X:=⟨_,rfl⟩
     rw [hX] at g0 g1 a0 L |-
     have H:Hid (w.heap.size+1<=X):=by show _<=_;rw [<- hX];exact b5.out
     clear t hX a0
     have A:=Zjw (ty:=3) Zhb C.out
     by_cases hl0:left=[]
     ·subst hl0
      simp only [List.length_nil] at A
      obtain ⟨v',Q,p1,p2,p3⟩:=b8.out V _ out [] a4.out (by have:=H.out;have:=L.out;omega) d0.out E.out
      simp only [List.length_nil,Int.ofNat_zero] at p1
      have Y:=Za (And.intro p2 p3)
      clear p2 p3
      go_wp2_with (at_builtin;refine Lib.wpList_append_run _ rfl _ _ _ _ rfl _ _ rfl rfl _ _ p1 ?_)
      go_ret
      refine ⟨_,rfl,?_,Y.out.2⟩
      have I:=HE.out
      rw [Zcz] at I
      rw [c8.out,<- I.1,<- I.2]
      simpa using Y.out.1
     ·have c6:(left.length:Int)≠0:=by
       have:left.length≠0:=fun e=>hl0 (List.eq_nil_of_length_eq_zero e)
       omega
      have f6:((left.length:Int)==0)=false:=beq_eq_false_iff_ne.2 c6
      have a5:=Za hl0
      clear hl0 c6
      have b0:Hid (okS s):=f2.out _ (List.mem_of_getElem? HX.out)
      obtain ⟨z,hz⟩:∃ z:Bool,(z=true↔s ∈ left):=by
       by_cases h:s ∈ left
       ·exact ⟨true,by simp [h]⟩
       ·exact ⟨false,by simp [h]⟩
      have HZ:=Za hz
      clear hz
      go_upto_region 13 with (go_at_call 56;refine (Zxa s q _).mono ?_;rintro e W2 ⟨rfl,M⟩;have c3:=Zkl Jay Zhb Zn9 (C.out.block (M.block _ C.out.lt)) s b0.out z HZ.out;simp only [Zke] at c3;have c5:=Za M;have O:=M.size;clear M)
      clear c3 A
      have f:Below V.heap.size V (W2.alloc (.cells #[] 164)):=c5.out.alloc O _
      have b3:W2.heap.size<(W2.alloc (.cells #[] 164)).heap.size:=by simp
      obtain ⟨W3,d7⟩:∃ W,W2.alloc (.cells #[] 164)=W:=⟨_,rfl⟩
      rw [d7] at f b3 |-
      have S:X<V.heap.size:=L.out
      have N:X<W3.heap.size:=by omega
      have f1:=(f.cell (p:=⟨X,0,none⟩) S).trans g0
      have e6:=(f.cell (p:=⟨X,1,none⟩) S).trans g1
      have a2:Hid (MS Zke okS W3 w.heap.size left):=C.out.block (f.block _ C.out.lt)
      have c4:Hid (Jb 42 2 Za0 (w.heap.size+1) W3 _ out):=d0.out.below f
      have a1:Hid (Below w.heap.size w W3):=a4.out.trans (f.mono (by have:=a4.out.size;omega))
      have K:=Za N
      clear d7 f b3 O c5 L S N g0 g1
      cases z with
      | true =>
       have hm:s ∈ left:=HZ.out.1 rfl
       go_upto_region 15 with (go_at_call 56;refine (Zxa s q _).mono ?_;rintro e W4 ⟨rfl,d⟩;obtain ⟨W5,d1,d2,d3,T,d5⟩:=Zue (ty:=0) Jay Zhb (a2.out.block (d.block _ a2.out.lt)) a9.out s b0.out hm;simp only [Zke] at d1;have HD:=Za (And.intro d (And.intro d2 (And.intro d3 (And.intro T d5))));clear d d2 d3 T d5)
       obtain ⟨d,d2,d3,T,d5⟩:=HD.out
       have d9:X<W4.heap.size:=Nat.lt_of_lt_of_le K.out d.size
       have a7:X≠w.heap.size:=by have:=H.out;omega
       have f4:=((World.cell?_of_block (w:=W4) (a:=⟨X,0,none⟩) (T X a7)).trans (d.cell (p:=⟨X,0,none⟩) K.out)).trans f1
       have f5:=((World.cell?_of_block (w:=W4) (a:=⟨X,1,none⟩) (T X a7)).trans (d.cell (p:=⟨X,1,none⟩) K.out)).trans e6
       have d6:Jb 42 2 Za0 (w.heap.size+1) W5 _ out:=(c4.out.below d).keep fun g hg _=>T g (by omega)
       have c2:w.heap.size+1<=W5.heap.size:=by have:=H.out;omega
       have b9:Below w.heap.size w W5:=(a1.out.trans (d.mono a1.out.size)).trans (d5.mono (Nat.le_refl _))
       obtain ⟨v6,W6,p1,p2,p3,p4⟩:=Jd (ty:=28) (c:=1) (bl:=W5.heap.size) (off:=0) (x:=(s,q)) Ztq (fun x=>rfl) Zf9 (d6.below ((Below.refl _ _).alloc (Nat.le_refl _) (.cells #[.string s,.int .i64 q] 42))) (fun jj u hu=>by
        rw [Nat.zero_add]
        exact Zh _ _ _ _ _ (by simpa [Za0] using hu)) (by have:=E.out;omega) (by simp;omega)
       have Y:=Za (And.intro p2 (And.intro p3 (And.intro b9 (And.intro d2 c2))))
       clear d d2 d3 T d5 HD p2 p3 p4 b9 c2 d6 d9 a7
       go_wp2_with (at_builtin;refine Lib.wpList_append_run _ rfl _ _ _ _ rfl _ _ rfl rfl _ _ p1 ?_)
       go_roundw
       case rel =>
        obtain ⟨p2,p3,p5,p6,p7⟩:=Y.out
        have a6:Below W5.heap.size W5 (W5.alloc (.cells #[.string s,.int .i64 q] 42)):=(Below.refl _ _).alloc (Nat.le_refl _) _
        have p8:=p6.block ((p3.block _ (by omega)).trans (a6.block _ (by omega)))
        have hh:=Zew (key:=Prod.fst) HX.out a5.out hm
        have hE:=HE.out
        rw [hh] at hE
        refine ⟨j+1,out++[(s,q)],Zl8 s left,by omega,by go_num,?_,(p5.trans (a6.mono (by omega))).trans (p3.mono (by omega)),p8,Zg2 a9.out _,p2,?_,?_,hE.2⟩
        ·have:=p3.size;have:=a6.size;omega
        ·have I:=E.out
         have h2:=Zg3 hm
         simp only [List.length_append,List.length_cons,List.length_nil];omega
        ·rw [<- hE.1];simp
       case measure=>simp [intOf];omega
      | false =>
       have hm:¬ s ∈ left:=fun h=>by have:=HZ.out.2 h;cases this
       go_wp2_with fail
       go_roundw
       case rel=>exact ⟨j+1,out,left,by omega,by go_num,by have:=H.out;have:=K.out;omega,a1.out,a2.out,a9.out,c4.out,E.out,by rw [<- Za5 HX.out a5.out hm];exact HE.out.1,by rw [<- Za5 HX.out a5.out hm];exact HE.out.2⟩
       case measure=>simp [intOf];omega
    ·have y:¬ (j:Int)<m:=by omega
     have A:=Zjw (ty:=3) Zhb R.out
     obtain ⟨v',Q,p1,p2,p3⟩:=b8.out wr _ out left r.out b5.out b1.out E.out
     have Y:=Za (And.intro p2 p3)
     clear p2 p3
     go_wp2_with (at_builtin;refine Lib.wpList_append_run _ rfl _ _ _ _ rfl _ _ rfl rfl _ _ p1 ?_)
     go_ret
     refine ⟨_,rfl,?_,Y.out.2⟩
     have I:=HE.out
     rw [List.drop_of_length_le (by have:=HM.out;omega)] at I
     simp only [Zy,List.append_nil] at I
     rw [c8.out,<- I.1,<- I.2]
     exact Y.out.1
end Go.Proofs.YthfilnflgahcjaaGreatDoor

namespace Go.Proofs.YthfilnflgahcjaaGreatDoor
open Go.RowKit Go.Shelf Go.Maps
set_option linter.all false
attribute [local go_sem] Oper.semAt_some
structure Zak where
 nodes:Int
 rels:Int
 labels:List (ByteArray × Int)
 types:List (ByteArray × Int)
 ends:List Zae
 keys:List Zav
structure Zc0 (B:Nat) (w:World) (vl vt ve vk:Value) (s:Zak):Prop where
 hl:Zal 2 Za0 B w vl s.labels
 ht:Zal 2 Za0 B w vt s.types
 he:Zal 4 Zc7 B w ve s.ends
 hk:Zal 4 Zd3 B w vk s.keys
 ol:∀ x ∈ s.labels,okS x.1
 ot:∀ x ∈ s.types,okS x.1
 oe:∀ x ∈ s.ends,okE x
 ok:∀ x ∈ s.keys,okK x
 nl:s.labels.length<=100000
 nt:s.types.length<=100000
 ne:s.ends.length<=900000
 nk:s.keys.length<=900000
def Za4 (s:Zak) (vl vt ve vk:Value):Value:=.agg #[.int .i64 s.nodes,.int .i64 s.rels,vl,vt,ve,vk]
theorem Zc0.keep {B:Nat} {w w':World} {vl vt ve vk:Value} {s:Zak} (h:Zc0 B w vl vt ve vk s) (hb:Below B w w'):Zc0 B w' vl vt ve vk s:=⟨h.hl.keep hb,h.ht.keep hb,h.he.keep hb,h.hk.keep hb,h.ol,h.ot,h.oe,h.ok,h.nl,h.nt,h.ne,h.nk⟩
set_option maxRecDepth 100000 in
set_option maxHeartbeats 4000000 in
theorem Zw7 (s:Zak) (vl vt ve vk:Value) (B:Nat) (w:World) (h:Zc0 B w vl vt ve vk s):Calls Tryz.prog 17 #[Za4 s vl vt ve vk] w fun e w'=>e=.returned (.int .i64 (Ze2 s.nodes))/\Below w.heap.size w w':=by
 obtain ⟨la,lc,rfl,_⟩:=h.hl
 obtain ⟨ta,tc,rfl,_⟩:=h.ht
 obtain ⟨ea,ec,rfl,_⟩:=h.he
 obtain ⟨ka,kc,rfl,_⟩:=h.hk
 unfold Za4
 have S:=Za (fun W=>Zi4 s.nodes W)
 generalize s.nodes=n at *
 generalize s.rels=r at *
 generalize s.labels.length=l1 at *
 generalize s.types.length=l2 at *
 generalize s.ends.length=l3 at *
 generalize s.keys.length=l4 at *
 clear h
 go_enter Tryz.func17,Tryz.ntmps17
 go_wp2_with (go_at_call 52;refine (S.out _).mono ?_;rintro e _ ⟨rfl,rfl⟩)
 go_ret
 exact ⟨rfl,(Below.refl _ _).alloc (Nat.le_refl _) _⟩
def Zjp:Int->List (ByteArray × Int)->Int
 | t,[]=>t
 | t,r::l=>Zjp (if Ze2 r.2<t then Ze2 r.2 else t) l
theorem Zw8 {t:Int} {l:List (ByteArray × Int)} {j:Nat} {x:ByteArray × Int} (h:l[j]?=some x):Zjp t (l.drop j)=Zjp (if Ze2 x.2<t then Ze2 x.2 else t) (l.drop (j+1)):=by
 obtain ⟨hj,o⟩:=List.getElem?_eq_some_iff.1 h
 rw [List.drop_eq_getElem_cons hj,o];rfl
def Zau (s:Zak) (ls:List ByteArray):Int:=Zjp (Ze2 s.nodes) (Ji Prod.fst (⟨#[]⟩,0) s.labels ls)
set_option maxRecDepth 100000 in
set_option maxHeartbeats 4000000 in
theorem Zjq (s:Zak) (vl vt ve vk vs:Value) (ls:List ByteArray) (B:Nat) (w:World) (hB:B<=w.heap.size) (h:Zc0 B w vl vt ve vk s) (hs:Zal 1 Zap B w vs ls) (G:∀ x ∈ ls,okS x) (hl:ls.length<=100000):Calls Tryz.prog 19 #[Za4 s vl vt ve vk,vs] w fun e w'=>e=.returned (.int .i64 (Zau s ls))/\Below w.heap.size w w':=by
 have HA:Hid (∀ W,Below w.heap.size w W->Calls Tryz.prog 17 #[Za4 s vl vt ve vk] W fun e w'=>e=.returned (.int .i64 (Ze2 s.nodes))/\Below W.heap.size W w'):=fun W hb=>Zw7 s vl vt ve vk B W (h.keep (hb.mono hB))
 have T:Hid (∀ W,Below w.heap.size w W->Calls Tryz.prog 55 #[vl,.func (.func 56) #[] #[],vs] W fun e w'=>∃ v,e=.returned v/\Jb 42 2 Za0 W.heap.size w' v (Ji Prod.fst (⟨#[]⟩,0) s.labels ls)/\Below W.heap.size W w'):=fun W hb=>Jeg s.labels ls vl vs B W (Nat.le_trans hB hb.size) (h.hl.keep (hb.mono hB)) (hs.keep (hb.mono hB)) h.ol G h.nl hl
 obtain ⟨R,U⟩:∃ R,Ji Prod.fst (⟨#[]⟩,0) s.labels ls=R:=⟨_,rfl⟩
 have z:Hid (R.length<=100000):=by
  show R.length<=100000
  have h1:=Zdl (key:=Prod.fst) s.labels (ls.foldl Zhs [])
  have h2:=Zex ls ([]:List ByteArray)
  rw [<- U]
  unfold Ji
  simp only [List.length_append,List.length_replicate,List.length_nil] at *
  omega
 obtain ⟨C,d⟩:∃ r,Zau s ls=r:=⟨_,rfl⟩
 have g:Hid (Zjp (Ze2 s.nodes) R=C):=by show _=_;rw [<- d,Zau,U]
 rw [U] at T
 rw [d]
 clear U d
 obtain ⟨la,lc,rfl,_⟩:=h.hl
 obtain ⟨ta,tc,rfl,_⟩:=h.ht
 obtain ⟨ea,ec,rfl,_⟩:=h.he
 obtain ⟨ka,kc,rfl,_⟩:=h.hk
 obtain ⟨sa,sc,rfl,_⟩:=hs
 unfold Za4 at *
 obtain ⟨c0,K⟩:∃ c,Ze2 s.nodes=c:=⟨_,rfl⟩
 rw [K] at HA g
 clear K
 generalize s.nodes=n at *
 generalize s.rels=r at *
 generalize s.labels.length=l1 at *
 generalize s.types.length=l2 at *
 generalize s.ends.length=l3 at *
 generalize s.keys.length=l4 at *
 generalize ls.length=l5 at *
 clear h G
 go_enter Tryz.func19,Tryz.ntmps19
 have X:Hid (Below w.heap.size w (w.alloc (.cells #[.int .i64 n,.int .i64 r,.slice la l1 lc,.slice ta l2 tc,.slice ea l3 ec,.slice ka l4 kc] 33))):=(Below.refl _ _).alloc (Nat.le_refl _) _
 have e0:(w.alloc (.cells #[.int .i64 n,.int .i64 r,.slice la l1 lc,.slice ta l2 tc,.slice ea l3 ec,.slice ka l4 kc] 33)).cell? ⟨w.heap.size,2,none⟩=some (.slice la l1 lc):=Zh _ _ _ _ _ rfl
 have a1:=Za e0
 have a0:Hid (w.heap.size<(w.alloc (.cells #[.int .i64 n,.int .i64 r,.slice la l1 lc,.slice ta l2 tc,.slice ea l3 ec,.slice ka l4 kc] 33)).heap.size):=by show _<_;simp
 clear e0
 go_wp2_with (first
  | (go_at_call 17;refine (HA.out _ X.out).mono ?_;rintro e W2 ⟨rfl,D⟩
     have c2:=(D.cell (p:=⟨w.heap.size,2,none⟩) a0.out).trans a1.out
     have A:Hid (Below w.heap.size w W2):=X.out.trans (D.mono X.out.size)
     clear D)
  | (go_at_call 55;refine (T.out _ A.out).mono ?_;rintro e W3 ⟨v3,rfl,y,I⟩
     have L:=Za y
     have E:Hid (Below w.heap.size w W3):=A.out.trans (I.mono A.out.size)
     obtain ⟨va,vc,rfl⟩:=y.slice
     clear y I c2))
 have Y:=Jb.srow (enc:=Za0) (k:=2) (fun _=>rfl) L.out
 obtain ⟨xa,xc,P,x1,x2,x3⟩:=Y
 obtain ⟨rfl,rfl⟩:va=xa/\vc=xc:=by injection P with a b c;exact ⟨a,c⟩
 have V:=Za x3
 obtain ⟨m,hm⟩:∃ m,R.length=m:=⟨_,rfl⟩
 have HM:=Za hm
 rw [hm] at x1 z |-
 have a2:m<=100000:=z.out
 clear P x3 hm z L
 go_loopw [5,15] (fun s i wr=>∃ (t:Int) (j:Nat),j<=m/\s=.int .i64 t/\i=.int .i64 j/\Zjp t (R.drop j)=C/\Below W3.heap.size W3 wr) (fun _ i _=>m - (intOf i).toNat)
 case atStart=>exact ⟨c0,0,Nat.zero_le _,rfl,rfl,g.out,Below.refl _ _⟩
 case round =>
  obtain ⟨t,j,hj,rfl,rfl,F,O⟩:=hrel
  have Q:=Za F
  have f:=Za O
  clear F O
  by_cases hlt:j<m
  ·have M:(j:Int)<m:=by omega
   obtain ⟨⟨a,q⟩,o⟩:∃ q,R[j]?=some q:=⟨_,List.getElem?_eq_getElem (by have:=HM.out;omega)⟩
   obtain ⟨bl,off,rfl,H,hc⟩:=V.out.resolve_left (by intro e;rw [e] at o;simp at o)
   have d0:=(f.out.cell (p:=⟨bl,off+j*2+0,none⟩) H).trans (hc j _ o 0 _ rfl)
   have d1:=(f.out.cell (p:=⟨bl,off+j*2+1,none⟩) H).trans (hc j _ o 1 _ rfl)
   rw [Nat.add_zero] at d0
   simp only at d0 d1
   have N:=Zw8 (t:=t) o
   rw [Q.out] at N
   have S:=Za (fun W=>Zi4 q W)
   obtain ⟨cq,u⟩:∃ c,Ze2 q=c:=⟨_,rfl⟩
   simp only [u] at N
   have N:=Za N
   rw [u] at S
   clear o hc u
   go_wp2_with (go_at_call 52;refine (S.out _).mono ?_;rintro e _ ⟨rfl,rfl⟩)
   go_roundw
   case rel=>exact ⟨_,j+1,by omega,rfl,by go_num,N.out.symm,f.out.alloc f.out.size _⟩
   case measure=>simp [intOf];omega
  ·have T:Hid (C=t):=by
    show _=_
    rw [<- Q.out,List.drop_of_length_le (by have:=HM.out;omega)]
    rfl
   have M:¬ (j:Int)<m:=by omega
   go_wp2_with fail
   go_ret
   exact ⟨by rw [T.out];rfl,E.out.trans (f.out.mono E.out.size)⟩
end Go.Proofs.YthfilnflgahcjaaGreatDoor

namespace Go.Proofs.YthfilnflgahcjaaGreatDoor
open Go.RowKit Go.Shelf Go.Maps
set_option linter.all false
attribute [local go_sem] Oper.semAt_some
set_option maxRecDepth 100000 in
set_option maxHeartbeats 4000000 in
theorem Jea (b:List (ByteArray × Int)) (keys:List (ByteArray)) (vr vk:Value) (B:Nat) (w:World) (hB:B<=w.heap.size) (hr:Zal 2 Za0 B w vr b) (hk:Zal 1 Zap B w vk keys) (b2:∀ x ∈ b,okS x.1) (b4:∀ x ∈ keys,okS x) (e5:b.length<=100000) (e8:keys.length<=100000) :
  Calls Tryz.prog 58 #[vr,.func (.func 59) #[] #[],vk] w fun e w'=>∃ v,e=.returned v/\Jb 62 2 Za0 w.heap.size w' v (Ji Prod.fst (⟨#[]⟩,0) b keys)/\Below w.heap.size w w':=by
 obtain ⟨ra,rc,rfl,r1,r2,r3⟩:=hr
 obtain ⟨ka,kc,rfl,k1,k2,k3⟩:=hk
 have d8:=Za r3
 have e9:=Za k3
 have f2:=Za b2
 have e4:=Za b4
 obtain ⟨m,hm⟩:∃ n,b.length=n:=⟨_,rfl⟩
 obtain ⟨n,hn⟩:∃ n,keys.length=n:=⟨_,rfl⟩
 have HM:=Za hm
 have HN:=Za hn
 rw [hm] at r1 e5 |-
 rw [hn] at k1 e8 |-
 clear r3 k3 b2 b4 hm hn
 have f3:∀ W:World,(Instr.makeMap 163 none).run Tryz.prog W=.ok (.map (some W.heap.size)) (W.alloc (.map #[] 0)):=fun W=>rfl
 go_enter Tryz.func58,Tryz.ntmps58
 go_wp2_with fail
 go_loopw [18] (fun i wr=>∃ j:Nat,j<=n/\i=.int .i64 j/\wr.heap.size=w.heap.size+1/\Below w.heap.size w wr/\MS Zke okS wr w.heap.size ((keys.take j).foldl Zhs [])) (fun i _=>n - (intOf i).toNat)
 case atStart=>exact ⟨0,Nat.zero_le _,rfl,by simp,(Below.refl _ _).alloc (Nat.le_refl _) _,Zc9 _⟩
 case round =>
  obtain ⟨j,hj,rfl,D,G,F⟩:=hrel
  have a8:=Za G
  have a3:=Za F
  have c7:=Za D
  clear G F D
  by_cases hlt:j<n
  ·have y:(j:Int)<n:=by omega
   obtain ⟨x,k⟩:∃ q,keys[j]?=some q:=⟨_,List.getElem?_eq_getElem (by have:=HN.out;omega)⟩
   obtain ⟨bl,off,rfl,e3,hc⟩:=e9.out.resolve_left (by intro e;rw [e] at k;simp at k)
   have cx:=(a8.out.cell (p:=⟨bl,off+j*1+0,none⟩) (show bl<w.heap.size by omega)).trans (hc j x k 0 _ rfl)
   rw [Nat.mul_one,Nat.add_zero] at cx
   have HX:=Za k
   obtain ⟨W,q1,q2,q3,q4,q5⟩:=Zuc Jay Zhb a3.out (Zbo _ _ List.nodup_nil) x (e4.out _ (List.mem_of_getElem? k))
   simp only [Zke] at q1
   have HQ:=Za (And.intro q2 (And.intro q3 q5))
   clear k hc q2 q3 q4 q5
   go_wp2_with fail
   go_roundw
   case rel=>exact ⟨j+1,by omega,by go_num,by rw [HQ.out.2.1];exact c7.out,a8.out.trans HQ.out.2.2,by rw [Znp HX.out];exact HQ.out.1⟩
   case measure=>simp [intOf];omega
  ·have y:¬ (j:Int)<n:=by omega
   have HL:=a3.out
   rw [List.take_of_length_le (by have:=HN.out;omega)] at HL
   obtain ⟨W0,f0⟩:∃ W0,W0=wr:=⟨_,rfl⟩
   subst f0
   obtain ⟨P,o⟩:∃ l,keys.foldl Zhs []=l:=⟨_,rfl⟩
   have e7:Hid (P.Nodup):=by show _;rw [<- o];exact Zbo _ _ List.nodup_nil
   have e0:Hid (P.length<=100000):=by
    have:=Zex keys ([]:List (ByteArray))
    rw [o] at this
    have h2:=HN.out
    show P.length<=100000
    simp only [List.length_nil] at this;omega
   have c8:Hid (Ji Prod.fst (⟨#[]⟩,0) b keys=(Zy Prod.fst b P).1++List.replicate (Zy Prod.fst b P).2.length (⟨#[]⟩,0)):=by
    show _=_
    unfold Ji
    rw [o]
   rw [o] at HL
   have HL:=Za HL
   clear o a3
   have b8:Hid (∀ (W:World) (v:Value) (out:List (ByteArray × Int)) (left:List (ByteArray)),Below w.heap.size w W->w.heap.size+1<=W.heap.size->Jb 62 2 Za0 (w.heap.size+1) W v out->out.length+left.length<=100000->∃ v' Q,(Builtin.append_ #[29,3] 29 #[v,.int .i64 left.length]).run Tryz.prog W=.ok v' Q/\Jb 62 2 Za0 w.heap.size Q v' (out++List.replicate left.length (⟨#[]⟩,0))/\Below w.heap.size w Q):=by
    intro W v out left hb hs ho hl
    obtain ⟨v',Q,p1,p2,p3⟩:=Zd8 (ty:=29) (tn:=3) (x:=((⟨#[]⟩,0):ByteArray × Int)) (m:=left.length) Ztr Tryz.underlying3 (fun x=>rfl) Zf9 rfl ho (by omega) hs
    exact ⟨v',Q,p1,p2.base (by omega),hb.trans (p3.mono (by omega))⟩
   go_wp2_with fail
   go_loopw [10,28] (fun v i wr=>∃ (j:Nat) (out:List (ByteArray × Int)) (left:List (ByteArray)),j<=m/\i=.int .i64 j/\w.heap.size+1<=wr.heap.size/\Below w.heap.size w wr/\MS Zke okS wr w.heap.size left/\left.Nodup/\Jb 62 2 Za0 (w.heap.size+1) wr v out/\out.length+left.length<=100000/\out++(Zy Prod.fst (b.drop j) left).1=(Zy Prod.fst b P).1/\(Zy Prod.fst (b.drop j) left).2=(Zy Prod.fst b P).2) (fun _ i _=>m - (intOf i).toNat)
   case atStart=>exact ⟨0,[],P,Nat.zero_le _,rfl,by rw [c7.out];exact Nat.le_refl _,a8.out,HL.out,e7.out,Jo _ _ _ _ _,by have:=e0.out;simpa using this,rfl,rfl⟩
   case round =>
    obtain ⟨j,out,left,hj,rfl,D,G,F,b6,c9,b7,e1,e2⟩:=hrel
    have r:=Za G
    have R:=Za F
    have b1:=Za c9
    have a9:=Za b6
    have b5:=Za D
    have E:=Za b7
    have HE:=Za (And.intro e1 e2)
    clear G F c9 b6 D b7 e1 e2
    by_cases hlt:j<m
    ·have y:(j:Int)<m:=by omega
     obtain ⟨⟨s,q⟩,k⟩:∃ q,b[j]?=some q:=⟨_,List.getElem?_eq_getElem (by have:=HM.out;omega)⟩
     obtain ⟨bl,off,rfl,e3,hc⟩:=d8.out.resolve_left (by intro e;rw [e] at k;simp at k)
     have c0:=(r.out.cell (p:=⟨bl,off+j*2+0,none⟩) (show bl<w.heap.size by omega)).trans (hc j (s,q) k 0 _ rfl)
     have c1:=(r.out.cell (p:=⟨bl,off+j*2+1,none⟩) (show bl<w.heap.size by omega)).trans (hc j (s,q) k 1 _ rfl)
     rw [Nat.add_zero] at c0
     simp only at c0 c1
     have HX:=Za k
     clear k hc
     go_upto_region 11 with fail
     have g0:(wr.alloc (.cells #[.string s,.int .i64 q] 62)).cell? ⟨wr.heap.size,0,none⟩=some _:=Zh _ _ _ _ _ rfl
     have g1:(wr.alloc (.cells #[.string s,.int .i64 q] 62)).cell? ⟨wr.heap.size,1,none⟩=some _:=Zh _ _ _ _ _ rfl
     have t:Below wr.heap.size wr (wr.alloc (.cells #[.string s,.int .i64 q] 62)):=(Below.refl _ _).alloc (Nat.le_refl _) _
     obtain ⟨V,U⟩:∃ W,wr.alloc (.cells #[.string s,.int .i64 q] 62)=W:=⟨_,rfl⟩
     have a0:wr.heap.size<V.heap.size:=by rw [<- U];simp
     rw [U] at g0 g1 t |-
     clear U c0 c1
     have C:Hid (MS Zke okS V w.heap.size left):=R.out.block (t.block _ R.out.lt)
     have d0:Hid (Jb 62 2 Za0 (w.heap.size+1) V _ out):=b1.out.below t
     have a4:=Za (r.out.trans (t.mono r.out.size))
     have L:=Za a0
     obtain ⟨X,hX⟩:∃ X,wr.heap.size=X:=⟨_,rfl⟩
     rw [hX] at g0 g1 a0 L |-
     have H:Hid (w.heap.size+1<=X):=by show _<=_;rw [<- hX];exact b5.out
     clear t hX a0
     have A:=Zjw (ty:=3) Zhb C.out
     by_cases hl0:left=[]
     ·subst hl0
      simp only [List.length_nil] at A
      obtain ⟨v',Q,p1,p2,p3⟩:=b8.out V _ out [] a4.out (by have:=H.out;have:=L.out;omega) d0.out E.out
      simp only [List.length_nil,Int.ofNat_zero] at p1
      have Y:=Za (And.intro p2 p3)
      clear p2 p3
      go_wp2_with (at_builtin;refine Lib.wpList_append_run _ rfl _ _ _ _ rfl _ _ rfl rfl _ _ p1 ?_)
      go_ret
      refine ⟨_,rfl,?_,Y.out.2⟩
      have I:=HE.out
      rw [Zcz] at I
      rw [c8.out,<- I.1,<- I.2]
      simpa using Y.out.1
     ·have c6:(left.length:Int)≠0:=by
       have:left.length≠0:=fun e=>hl0 (List.eq_nil_of_length_eq_zero e)
       omega
      have f6:((left.length:Int)==0)=false:=beq_eq_false_iff_ne.2 c6
      have a5:=Za hl0
      clear hl0 c6
      have b0:Hid (okS s):=f2.out _ (List.mem_of_getElem? HX.out)
      obtain ⟨z,hz⟩:∃ z:Bool,(z=true↔s ∈ left):=by
       by_cases h:s ∈ left
       ·exact ⟨true,by simp [h]⟩
       ·exact ⟨false,by simp [h]⟩
      have HZ:=Za hz
      clear hz
      go_upto_region 13 with (go_at_call 59;refine (Zrn s q _).mono ?_;rintro e W2 ⟨rfl,M⟩;have c3:=Zkl Jay Zhb Zn9 (C.out.block (M.block _ C.out.lt)) s b0.out z HZ.out;simp only [Zke] at c3;have c5:=Za M;have O:=M.size;clear M)
      clear c3 A
      have f:Below V.heap.size V (W2.alloc (.cells #[] 164)):=c5.out.alloc O _
      have b3:W2.heap.size<(W2.alloc (.cells #[] 164)).heap.size:=by simp
      obtain ⟨W3,d7⟩:∃ W,W2.alloc (.cells #[] 164)=W:=⟨_,rfl⟩
      rw [d7] at f b3 |-
      have S:X<V.heap.size:=L.out
      have N:X<W3.heap.size:=by omega
      have f1:=(f.cell (p:=⟨X,0,none⟩) S).trans g0
      have e6:=(f.cell (p:=⟨X,1,none⟩) S).trans g1
      have a2:Hid (MS Zke okS W3 w.heap.size left):=C.out.block (f.block _ C.out.lt)
      have c4:Hid (Jb 62 2 Za0 (w.heap.size+1) W3 _ out):=d0.out.below f
      have a1:Hid (Below w.heap.size w W3):=a4.out.trans (f.mono (by have:=a4.out.size;omega))
      have K:=Za N
      clear d7 f b3 O c5 L S N g0 g1
      cases z with
      | true =>
       have hm:s ∈ left:=HZ.out.1 rfl
       go_upto_region 15 with (go_at_call 59;refine (Zrn s q _).mono ?_;rintro e W4 ⟨rfl,d⟩;obtain ⟨W5,d1,d2,d3,T,d5⟩:=Zue (ty:=0) Jay Zhb (a2.out.block (d.block _ a2.out.lt)) a9.out s b0.out hm;simp only [Zke] at d1;have HD:=Za (And.intro d (And.intro d2 (And.intro d3 (And.intro T d5))));clear d d2 d3 T d5)
       obtain ⟨d,d2,d3,T,d5⟩:=HD.out
       have d9:X<W4.heap.size:=Nat.lt_of_lt_of_le K.out d.size
       have a7:X≠w.heap.size:=by have:=H.out;omega
       have f4:=((World.cell?_of_block (w:=W4) (a:=⟨X,0,none⟩) (T X a7)).trans (d.cell (p:=⟨X,0,none⟩) K.out)).trans f1
       have f5:=((World.cell?_of_block (w:=W4) (a:=⟨X,1,none⟩) (T X a7)).trans (d.cell (p:=⟨X,1,none⟩) K.out)).trans e6
       have d6:Jb 62 2 Za0 (w.heap.size+1) W5 _ out:=(c4.out.below d).keep fun g hg _=>T g (by omega)
       have c2:w.heap.size+1<=W5.heap.size:=by have:=H.out;omega
       have b9:Below w.heap.size w W5:=(a1.out.trans (d.mono a1.out.size)).trans (d5.mono (Nat.le_refl _))
       obtain ⟨v6,W6,p1,p2,p3,p4⟩:=Jd (ty:=29) (c:=1) (bl:=W5.heap.size) (off:=0) (x:=(s,q)) Ztr (fun x=>rfl) Zf9 (d6.below ((Below.refl _ _).alloc (Nat.le_refl _) (.cells #[.string s,.int .i64 q] 62))) (fun jj u hu=>by
        rw [Nat.zero_add]
        exact Zh _ _ _ _ _ (by simpa [Za0] using hu)) (by have:=E.out;omega) (by simp;omega)
       have Y:=Za (And.intro p2 (And.intro p3 (And.intro b9 (And.intro d2 c2))))
       clear d d2 d3 T d5 HD p2 p3 p4 b9 c2 d6 d9 a7
       go_wp2_with (at_builtin;refine Lib.wpList_append_run _ rfl _ _ _ _ rfl _ _ rfl rfl _ _ p1 ?_)
       go_roundw
       case rel =>
        obtain ⟨p2,p3,p5,p6,p7⟩:=Y.out
        have a6:Below W5.heap.size W5 (W5.alloc (.cells #[.string s,.int .i64 q] 62)):=(Below.refl _ _).alloc (Nat.le_refl _) _
        have p8:=p6.block ((p3.block _ (by omega)).trans (a6.block _ (by omega)))
        have hh:=Zew (key:=Prod.fst) HX.out a5.out hm
        have hE:=HE.out
        rw [hh] at hE
        refine ⟨j+1,out++[(s,q)],Zl8 s left,by omega,by go_num,?_,(p5.trans (a6.mono (by omega))).trans (p3.mono (by omega)),p8,Zg2 a9.out _,p2,?_,?_,hE.2⟩
        ·have:=p3.size;have:=a6.size;omega
        ·have I:=E.out
         have h2:=Zg3 hm
         simp only [List.length_append,List.length_cons,List.length_nil];omega
        ·rw [<- hE.1];simp
       case measure=>simp [intOf];omega
      | false =>
       have hm:¬ s ∈ left:=fun h=>by have:=HZ.out.2 h;cases this
       go_wp2_with fail
       go_roundw
       case rel=>exact ⟨j+1,out,left,by omega,by go_num,by have:=H.out;have:=K.out;omega,a1.out,a2.out,a9.out,c4.out,E.out,by rw [<- Za5 HX.out a5.out hm];exact HE.out.1,by rw [<- Za5 HX.out a5.out hm];exact HE.out.2⟩
       case measure=>simp [intOf];omega
    ·have y:¬ (j:Int)<m:=by omega
     have A:=Zjw (ty:=3) Zhb R.out
     obtain ⟨v',Q,p1,p2,p3⟩:=b8.out wr _ out left r.out b5.out b1.out E.out
     have Y:=Za (And.intro p2 p3)
     clear p2 p3
     go_wp2_with (at_builtin;refine Lib.wpList_append_run _ rfl _ _ _ _ rfl _ _ rfl rfl _ _ p1 ?_)
     go_ret
     refine ⟨_,rfl,?_,Y.out.2⟩
     have I:=HE.out
     rw [List.drop_of_length_le (by have:=HM.out;omega)] at I
     simp only [Zy,List.append_nil] at I
     rw [c8.out,<- I.1,<- I.2]
     exact Y.out.1
end Go.Proofs.YthfilnflgahcjaaGreatDoor

namespace Go.Proofs.YthfilnflgahcjaaGreatDoor
open Go.RowKit Go.Shelf Go.Maps
set_option linter.all false
attribute [local go_sem] Oper.semAt_some
set_option maxRecDepth 100000 in
set_option maxHeartbeats 4000000 in
theorem Jdz (a:List (ByteArray × Int)) (D:Value) (B:Nat) (w:World) (hB:B<=w.heap.size) (hr:Zal 2 Za0 B w D a) (z:a.length<=100000) :
  Calls Tryz.prog 57 #[D,.func (.func 60) #[] #[]] w fun e w'=>∃ v,e=.returned v/\Jb 2 1 Zkk w.heap.size w' v (a.map (fun x:ByteArray × Int=>x.2))/\Below w.heap.size w w':=by
 obtain ⟨ra,rc,rfl,N,r2,G⟩:=hr
 have y:=Za G
 obtain ⟨m,hm⟩:∃ n,a.length=n:=⟨_,rfl⟩
 have E:=Za hm
 rw [hm] at N z |-
 clear G hm
 go_enter Tryz.func57,Tryz.ntmps57
 go_wp2_with fail
 go_loopw [5,10] (fun v i wr=>∃ j:Nat,j<=m/\i=.int .i64 j/\Below w.heap.size w wr/\Jb 2 1 Zkk w.heap.size wr v ((a.take j).map (fun x:ByteArray × Int=>x.2))) (fun _ i _=>m - (intOf i).toNat)
 case atStart=>exact ⟨0,Nat.zero_le _,rfl,Below.refl _ _,Jo _ _ _ _ _⟩
 case round =>
  obtain ⟨j,R,rfl,l,g⟩:=hrel
  have b:=Za l
  have h:=Za g
  clear l g
  by_cases hlt:j<m
  ·have k:(j:Int)<m:=by omega
   obtain ⟨⟨s,q⟩,f⟩:∃ q,a[j]?=some q:=⟨_,List.getElem?_eq_getElem (by have:=E.out;omega)⟩
   obtain ⟨bl,off,rfl,P,t⟩:=y.out.resolve_left (by intro e;rw [e] at f;simp at f)
   have c0:=(b.out.cell (p:=⟨bl,off+j*2+0,none⟩) (show bl<w.heap.size by omega)).trans (t j (s,q) f 0 _ rfl)
   have c1:=(b.out.cell (p:=⟨bl,off+j*2+1,none⟩) (show bl<w.heap.size by omega)).trans (t j (s,q) f 1 _ rfl)
   rw [Nat.add_zero] at c0
   simp only at c0 c1
   have O:=Za f
   clear f t
   have r:Hid (Below wr.heap.size wr (wr.alloc (.cells #[.string s,.int .i64 q] 62))):=(Below.refl _ _).alloc (Nat.le_refl _) _
   go_wp2_with (first
    | (go_at_call 60;refine (Jdq s q _).mono ?_;rintro e A ⟨rfl,d⟩
       have H:w.heap.size<=A.heap.size:=Nat.le_trans b.out.size (Nat.le_trans r.out.size d.size)
       obtain ⟨S,T,p1,p2,p3,K⟩:=Jd (ty:=44) (c:=1) (bl:=A.heap.size) (off:=0) (x:=q) Jco (fun x=>rfl) Zxk (((h.out.below r.out).below d).below ((Below.refl _ _).alloc (Nat.le_refl _) (.cells #[.int .i64 q] 2))) (fun Q u L=>by
        rw [Nat.zero_add]
        exact Zh _ _ _ _ _ (by simpa [Zkk] using L)) (by rw [List.length_map,List.length_take];omega) (by simp;omega)
       have M:=Za (And.intro p2 (And.intro p3 d))
       clear p2 p3 K d)
    | (at_builtin;refine Lib.wpList_append_run _ rfl _ _ _ _ rfl _ _ rfl rfl _ _ p1 ?_))
   go_roundw
   case rel =>
    obtain ⟨p2,p3,d⟩:=M.out
    refine ⟨j+1,by omega,by go_num,?_,?_⟩
    ·have F:=b.out.trans (r.out.mono b.out.size)
     have C:=F.trans (d.mono F.size)
     have I:Below w.heap.size w (A.alloc (.cells #[.int .i64 q] 2)):=C.alloc C.size _
     exact I.trans p3
    ·rw [List.take_add_one,O.out,List.map_append]
     exact p2
   case measure=>simp [intOf];omega
  ·have k:¬ (j:Int)<m:=by omega
   have o:=h.out
   rw [List.take_of_length_le (by have:=E.out;omega)] at o
   have o:=Za o
   go_wp2_with fail
   go_ret
   exact ⟨_,rfl,o.out,b.out⟩
end Go.Proofs.YthfilnflgahcjaaGreatDoor

namespace Go.Proofs.YthfilnflgahcjaaGreatDoor
open Go.RowKit Go.Shelf Go.Maps
set_option linter.all false
attribute [local go_sem] Oper.semAt_some
theorem Zmx {R K:Type} [DecidableEq K] (key:R->K) (zero:R) (c:List R) (keys:List K):(Ji key zero c keys).length<=keys.length:=by
 have Y:=Zdl (key:=key) c (keys.foldl Zhs [])
 have U:=Zex keys ([]:List K)
 unfold Ji
 simp only [List.length_append,List.length_replicate,List.length_nil] at *
 omega
def Zcf (s:Zak) (ts:List ByteArray):Int:=if ts=[] then Ze2 s.rels else Zah ((Ji Prod.fst (⟨#[]⟩,0) s.types ts).map fun x=>x.2)
set_option maxRecDepth 100000 in
set_option maxHeartbeats 4000000 in
theorem Zpv (s:Zak) (vl vt ve vk vs:Value) (ls:List ByteArray) (B:Nat) (w:World) (hB:B<=w.heap.size) (h:Zc0 B w vl vt ve vk s) (H:Zal 1 Zap B w vs ls) (o:∀ x ∈ ls,okS x) (hl:ls.length<=100000):Calls Tryz.prog 20 #[Za4 s vl vt ve vk,vs] w fun e w'=>e=.returned (.int .i64 (Zcf s ls))/\Below w.heap.size w w':=by
 have P:Hid (∀ W,Calls Tryz.prog 52 #[.int .i64 s.rels] W fun e w'=>e=.returned (.int .i64 (Ze2 s.rels))/\w'=W):=fun W=>Zi4 s.rels W
 have u:Hid (∀ W,Below w.heap.size w W->Calls Tryz.prog 58 #[vt,.func (.func 59) #[] #[],vs] W fun e w'=>∃ v,e=.returned v/\Jb 62 2 Za0 W.heap.size w' v (Ji Prod.fst (⟨#[]⟩,0) s.types ls)/\Below W.heap.size W w'):=fun W hb=>Jea s.types ls vt vs B W (Nat.le_trans hB hb.size) (h.ht.keep (hb.mono hB)) (H.keep (hb.mono hB)) h.ot o h.nt hl
 obtain ⟨R,t⟩:∃ R,Ji Prod.fst (⟨#[]⟩,0) s.types ls=R:=⟨_,rfl⟩
 have A:Hid (R.length<=100000):=by
  show R.length<=100000
  have:=Zmx Prod.fst ((⟨#[]⟩,0):ByteArray × Int) s.types ls
  rw [t] at this
  omega
 have F:Hid (Zcf s ls=if ls=[] then Ze2 s.rels else Zah (R.map fun x=>x.2)):=by show _=_;rw [Zcf,t]
 obtain ⟨p,a⟩:∃ r,Zcf s ls=r:=⟨_,rfl⟩
 rw [a] at F
 rw [t] at u
 rw [a]
 clear t a
 obtain ⟨la,lc,rfl,_⟩:=h.hl
 obtain ⟨ta,tc,rfl,_⟩:=h.ht
 obtain ⟨ea,ec,rfl,_⟩:=h.he
 obtain ⟨ka,kc,rfl,_⟩:=h.hk
 obtain ⟨sa,V,rfl,_⟩:=H
 unfold Za4 at *
 generalize s.nodes=n at *
 generalize s.rels=r at *
 generalize s.labels.length=l1 at *
 generalize s.types.length=l2 at *
 generalize s.ends.length=l3 at *
 generalize s.keys.length=l4 at *
 clear h o
 have q:Hid (Below w.heap.size w (w.alloc (.cells #[.int .i64 n,.int .i64 r,.slice la l1 lc,.slice ta l2 tc,.slice ea l3 ec,.slice ka l4 kc] 33))):=(Below.refl _ _).alloc (Nat.le_refl _) _
 by_cases h0:ls=[]
 ·subst h0
  have u:Hid (p=Ze2 r):=by show _=_;rw [F.out,if_pos rfl]
  simp only [List.length_nil]
  go_enter Tryz.func20,Tryz.ntmps20
  go_wp2_with (go_at_call 52;refine (P.out _).mono ?_;rintro e _ ⟨rfl,rfl⟩)
  go_ret
  exact ⟨by rw [u.out];rfl,q.out⟩
 ·obtain ⟨I,d⟩:∃ l,(R.map fun x:ByteArray × Int=>x.2)=l:=⟨_,rfl⟩
  have E:=Za d
  have z:Hid (p=Zah I):=by show _=_;rw [F.out,if_neg h0,d]
  clear d
  have m:(ls.length:Int)≠0:=by
   have:ls.length≠0:=fun e=>h0 (List.eq_nil_of_length_eq_zero e)
   omega
  have Q:((ls.length:Int)==0)=false:=beq_eq_false_iff_ne.2 m
  generalize ls.length=l5 at *
  clear h0 m
  go_enter Tryz.func20,Tryz.ntmps20
  go_wp2_with (first
   | (go_at_call 58;refine (u.out _ q.out).mono ?_;rintro e D ⟨L,rfl,f,g⟩
      have i:Hid (Below w.heap.size w D):=q.out.trans (g.mono q.out.size)
      have y:=Za (Jdz R L D.heap.size D (Nat.le_refl _) (Jb.srow (enc:=Za0) (k:=2) (fun _=>rfl) f) A.out)
      clear g
      obtain ⟨T,X,rfl⟩:=f.slice
      clear f)
   | (go_at_call 57;refine y.out.mono ?_;rintro e G ⟨S,rfl,b,j⟩;rw [E.out] at b
      have C:Hid (Below w.heap.size w G):=i.out.trans (j.mono i.out.size)
      have O:=Za (Zcj I S G.heap.size G (Nat.le_refl _) (Jb.srow (enc:=Zkk) (k:=1) (fun _=>rfl) b))
      clear j
      obtain ⟨N,M,rfl⟩:=b.slice
      clear b)
   | (go_at_call 34;refine O.out.mono ?_;rintro e _ ⟨rfl,rfl⟩))
  go_ret
  exact ⟨by rw [z.out];rfl,C.out⟩
end Go.Proofs.YthfilnflgahcjaaGreatDoor

