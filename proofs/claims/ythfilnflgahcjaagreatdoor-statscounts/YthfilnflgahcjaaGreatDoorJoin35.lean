/- Texts that rise are apart. texts: a text put in order into texts, in the document's words. The program's Count at a graph that may not be. -/
import Derived.Test.YthfilnflgahcjaaGreatDoorJoin34
import Derived.Test.YthfilnflgahcjaaGreatDoorJoin7
import Derived.Test.YthfilnflgahcjaaGreatDoorJoin11
namespace Go.Proofs.YthfilnflgahcjaaGreatDoor
open Go.RowKit Go.Shelf
set_option linter.all false
theorem Zti:∀ (a b:List UInt8),Op.bytesLess a b=decide (Lib.compareBytes a b<0)
 | [],[]=>by simp [Op.bytesLess,Lib.compareBytes]
 | [],_::_=>by simp [Op.bytesLess,Lib.compareBytes]
 | _::_,[]=>by simp [Op.bytesLess,Lib.compareBytes]
 | a::x,b::y=>by
  rw [Op.bytesLess,Lib.compareBytes,Zti x y]
  by_cases d:a<b
  ·simp [d]
  ·by_cases i:b<a
   ·have f:¬ a=b:=fun e=>by subst e;exact d i
    simp [d,i,f]
   ·have f:a=b:=UInt8.le_antisymm (UInt8.not_lt.1 i) (UInt8.not_lt.1 d)
    subst f
    simp
theorem Zn4 (a b:ByteArray):Op.bytesLess a.toList b.toList=decide (Zc5 a b<0):=by
 rw [Zti,Lib.toList_data,Lib.toList_data];rfl
theorem Zf4 (a b:ByteArray):Zc5 b a=- Zc5 a b:=Zzj.2.1 (a,0) (b,0)
theorem Zf5 (a:ByteArray):Zc5 a a=0:=by have:=Zf4 a a;omega
theorem Zmp {a b c:ByteArray} (d:Zc5 a b<0) (i:Zc5 b c<0):Zc5 a c<0:=by
 have h:=Zzj.2.2 (a,0) (b,0) (c,0)
 have o:=Zzj.1 (a,0) (b,0)
 have q:=Zzj.1 (b,0) (c,0)
 have m:=Zzj.1 (a,0) (c,0)
 simp only [cfL,Cm.Leads,Cm.Three] at h o q m
 omega
theorem Jdm {x l:ByteArray} (h:leqB x l=false):Zc5 l x<0:=by
 unfold leqB at h
 simp only [Bool.or_eq_false_iff] at h
 obtain ⟨d,i⟩:=h
 rw [Zn4] at d
 have f:¬ Zc5 x l<0:=by simpa using d
 have j:Zc5 x l≠0:=fun e=>by
  rw [Zdy e] at i;simp at i
 have:=Zf4 x l
 omega
theorem Jdn:∀ {ks:List ByteArray} {l:ByteArray},nrB l ks=true->(∀ x ∈ ks,Zc5 l x<0)/\ks.Nodup
 | [],_,_=>⟨fun x s=>by simp at s,List.nodup_nil⟩
 | x::r,l,h=>by
  simp only [nrB,Bool.and_eq_true,Bool.not_eq_true'] at h
  obtain ⟨_,d,i⟩:=h
  have f:=Jdm d
  obtain ⟨j,p⟩:=Jdn i
  refine ⟨fun y k=>?_,List.nodup_cons.2 ⟨fun hm=>?_,p⟩⟩
  ·rcases List.mem_cons.1 k with rfl | k
   ·exact f
   ·exact Zmp f (j y k)
  ·have:=j x hm
   rw [Zf5] at this
   omega
theorem Zw9 {ns:List Zj} (h:Zbu ns=true):∀ n ∈ ns,n.labels.Nodup:=by
 induction ns with
 | nil=>intro n hn;cases hn
 | cons x r ih =>
  intro n hn
  simp only [Zbu,Bool.and_eq_true] at h
  rcases List.mem_cons.1 hn with rfl | hn
  ·exact (Jdn h.1).2
  ·exact ih h.2 n hn
theorem Zpq {ns:List Zj} (h:Jv ns=true):∀ n ∈ ns,(n.props.map Prod.fst).Nodup:=by
 induction ns with
 | nil=>intro n hn;cases hn
 | cons x r ih =>
  intro n hn
  simp only [Jv,Zlg,Bool.and_eq_true] at h
  rcases List.mem_cons.1 hn with rfl | hn
  ·exact (Jdn h.1.2).2
  ·exact ih h.2 n hn
theorem Jaf {g:Zx} (h:Zaz g=true):∀ n ∈ g.nodes,n.labels.Nodup/\(n.props.map Prod.fst).Nodup:=by
 simp only [Zaz,Bool.and_eq_true] at h
 obtain ⟨_,_,f,⟨j,_⟩,_⟩:=h
 exact fun n hn=>⟨Zw9 f n hn,Zpq j n hn⟩
end Go.Proofs.YthfilnflgahcjaaGreatDoor

namespace Go.Proofs.YthfilnflgahcjaaGreatDoor
open Go.RowKit Go.Shelf Go.Maps
set_option linter.all false
attribute [local go_sem] Oper.semAt_some
noncomputable def Zet (s:ByteArray):List ByteArray->List ByteArray
 | []=>[s]
 | x::r=>if Zc5 x s<0 then x::Zet s r else if x=s then x::r else s::x::r
theorem Zsw {s:ByteArray}:∀ {ls:List ByteArray} {j:Nat},j<=ls.length->(∀ i x,i<j->ls[i]?=some x->Zc5 x s<0)->Zet s ls=ls.take j++Zet s (ls.drop j)
 | ls,0,_,_=>by simp
 | [],j+1,h,_=>by simp at h
 | x::r,j+1,h,O=>by
  rw [Zet,if_pos (O 0 x (by omega) rfl)]
  have:=Zsw (s:=s) (ls:=r) (j:=j) (by simpa using h) fun i y hi Y=>O (i+1) y (by omega) (by simpa using Y)
  rw [this];simp
theorem Jen {s:ByteArray} {ls:List ByteArray} {j:Nat} {x:ByteArray} (h:ls[j]?=some x) (h1:¬ Zc5 x s<0):Zet s (ls.drop j)=if x=s then ls.drop j else s::ls.drop j:=by
 obtain ⟨hj,Q⟩:=List.getElem?_eq_some_iff.1 h
 rw [List.drop_eq_getElem_cons hj,Q,Zet,if_neg h1]
theorem Zqy {B:Nat} {w:World} {bl off l c:Nat} {xs:List ByteArray} (h:Zal 1 Zap B w (.slice (some ⟨bl,off,none⟩) l c) xs) (j:Nat) (hj:j<=l):Zal 1 Zap B w (.slice (some ⟨bl,off+j,none⟩) (l - j) (c - j)) (xs.drop j):=by
 obtain ⟨a0,c0,e1,V,h3,h4⟩:=h
 injection e1 with e1 e2 e3
 subst e1 e2 e3
 refine ⟨_,_,by rw [List.length_drop],by rw [List.length_drop];omega,by omega,?_⟩
 rcases h4 with h4 | ⟨b',o',e,hb,O⟩
 ·left;rw [h4];simp
 ·right
  injection e with e
  injection e with e5 e6 e7
  subst e5 e6
  refine ⟨_,_,rfl,hb,fun i x hi k u K=>?_⟩
  rw [List.getElem?_drop] at hi
  have:=O (j+i) x hi k u K
  rw [show off+j+i*1+k=off+(j+i)*1+k by omega]
  exact this
set_option maxRecDepth 100000 in
set_option maxHeartbeats 8000000 in
theorem Zhu (ls:List ByteArray) (s:ByteArray) (v:Value) (B:Nat) (w:World) (hB:B<=w.heap.size) (h:Zal 1 Zap B w v ls) (hz:ls=[]->v=.slice none 0 0) (hl:ls.length<=100000) :
  Calls Tryz.prog 48 #[v,.string s] w fun e w'=>∃ v',e=.returned v'/\Zal 1 Zap w'.heap.size w' v' (Zet s ls)/\Below w.heap.size w w':=by
 have T:=Za h
 have HZ:=Za hz
 clear hz
 obtain ⟨a,c,rfl,h1,V,h3⟩:=h
 have H3:=Za h3
 obtain ⟨m,hm⟩:∃ n,ls.length=n:=⟨_,rfl⟩
 have L:=Za hm
 rw [hm] at T hl h1 |-
 clear hm h3
 go_enter Tryz.func48,Tryz.ntmps48
 go_wp2_with fail
 go_loopw [5] (fun i wr=>∃ (j:Nat),j<=m/\i=.int .i64 j/\wr=w/\∀ i x,i<j->ls[i]?=some x->Zc5 x s<0) (fun i _=>m - (intOf i).toNat)
 case atStart=>exact ⟨0,Nat.zero_le _,rfl,rfl,fun i x h=>by omega⟩
 case round =>
  obtain ⟨j,hj,rfl,rfl,O⟩:=hrel
  have HC:=Za O
  clear O
  by_cases hlt:j<m
  ·have a5:(j:Int)<m:=by omega
   obtain ⟨x,Q⟩:∃ q,ls[j]?=some q:=⟨_,List.getElem?_eq_getElem (by have:=L.out;omega)⟩
   have HX:=Za Q
   obtain ⟨bl,off,rfl,a7,F⟩:=H3.out.resolve_left (by intro e;rw [e] at Q;simp at Q)
   have c0:wr.cell? ⟨bl,off+j,none⟩=some (.string x):=by
    have:=F j _ Q 0 _ rfl
    rwa [Nat.mul_one,Nat.add_zero] at this
   clear Q F
   by_cases hls:Zc5 x s<0
   ·have hb:Op.bytesLess x.toList s.toList=true:=by rw [Zn4];simpa using hls
    have a9:Hid (∀ i y,i<j+1->ls[i]?=some y->Zc5 y s<0):=fun i y hi Y=>by
     rcases Nat.lt_or_ge i j with h | h
     ·exact HC.out i y h Y
     ·obtain rfl:i=j:=by omega
      rw [HX.out] at Y
      cases Y
      exact hls
    clear hls
    go_wp2_with fail
    go_roundw
    case rel=>exact ⟨j+1,by omega,by go_num,by first | rfl | trivial,a9.out⟩
    case measure=>simp [intOf];omega
   ·have hb:Op.bytesLess x.toList s.toList=false:=by rw [Zn4];simpa using hls
    have a6:=Za (Jen HX.out hls)
    have X:=Za (Zsw (s:=s) (ls:=ls) (j:=j) (by have:=L.out;omega) HC.out)
    clear hls
    by_cases hxs:x=s
    ·have hq:=Zec hxs
     have P:Hid (Zet s ls=ls):=by show _=_;rw [X.out,a6.out,if_pos hxs,List.take_append_drop]
     clear hxs
     go_wp2_with fail
     go_ret
     exact ⟨_,rfl,by rw [P.out];exact T.out.mono hB,Below.refl _ _⟩
    ·have hq:=Zfz hxs
     have P:Hid (Zet s ls=(ls.take j++[s])++ls.drop j):=by show _=_;rw [X.out,a6.out,if_neg hxs];simp
     clear hxs
     have S:Hid (Zal 1 Zap B wr (.slice (some ⟨bl,off,none⟩) j c) (ls.take j)):=by
      have h:=T.out
      rw [show ls=ls.take j++ls.drop j from (List.take_append_drop j ls).symm] at h
      have V:=h.take
      rwa [List.length_take,Nat.min_eq_left (by have:=L.out;omega)] at V
     have M:Hid (Zal 1 Zap B wr (.slice (some ⟨bl,off+j,none⟩) (m - j) (c - j)) (ls.drop j)):=Zqy T.out j (by omega)
     have N:=L.out
     obtain ⟨v1,A,p1,C,I,_⟩:=Zbk (t:=43) (ty:=43) (base:=wr.heap.size) Zek (fun _=>rfl) Zcr (Jo 9 1 Zap wr.heap.size wr) S.out (by simp<;>omega) (Nat.le_refl _)
     obtain ⟨a1,c1,g⟩:=C.slice
     rw [List.nil_append,List.length_take,Nat.min_eq_left (by omega)] at g
     subst g
     have D:=Za C
     have d:=Za I
     obtain ⟨v2,R,p2,E,H,_⟩:=Jd (t:=43) (ty:=43) (c:=1) (bl:=A.heap.size) (off:=0) (x:=s) Zek (fun _=>rfl) Zcr (D.out.below (Zc A (.cells #[.string s] 9))) (fun jj u K=>by
      rw [Nat.zero_add];exact Zh _ _ _ _ _ (by simpa [Zap] using K)) (by simp<;>omega) (by have:=d.out.size;simp;omega)
     obtain ⟨a2,c2,f⟩:=E.slice
     rw [List.length_append,List.nil_append,List.length_take,Nat.min_eq_left (by omega),show ([s]:List ByteArray).length=1 from rfl] at f
     subst f
     have p:=Za E
     have b:Hid (Below wr.heap.size wr R):=(d.out.trans ((Zc A _).mono d.out.size)).trans H
     obtain ⟨v3,W3,p3,G,b3,_⟩:=Zbk (t:=43) (ty:=43) (base:=wr.heap.size) Zek (fun _=>rfl) Zcr p.out (M.out.keep (b.out.mono hB)) (by simp<;>omega) b.out.size
     have z:=Za G
     have o:=Za (b.out.trans b3)
     clear C I E H G b3
     go_upto_region 7 with (at_builtin;refine Lib.wpList_append_run _ rfl _ _ _ _ rfl _ _ rfl rfl _ _ p1 ?_)
     clear p1
     go_upto_region 8 with (at_builtin;refine Lib.wpList_append_run _ rfl _ _ _ _ rfl _ _ rfl rfl _ _ p2 ?_)
     clear p2
     go_wp2_with (at_builtin;refine Lib.wpList_append_run _ rfl _ _ _ _ rfl _ _ rfl rfl _ _ p3 ?_)
     go_ret
     exact ⟨_,rfl,by rw [P.out];exact Jb.srow (enc:=Zap) (k:=1) (fun _=>rfl) z.out,o.out⟩
  ·have a5:¬ (j:Int)<m:=by omega
   have U:j=m:=by omega
   have b0:=Za U
   have P:Hid (Zet s ls=((ls.take j)++[s])++ls.drop j):=by
    show _=_
    rw [Zsw (j:=j) (by have:=L.out;omega) HC.out,List.drop_eq_nil_of_le (by have:=L.out;omega)]
    simp [Zet]
   have N:=L.out
   clear U
   by_cases hj0:m=0
   ·have W:j=0:=by omega
    subst W
    have he:ls=[]:=List.eq_nil_of_length_eq_zero (by omega)
    have hv:=HZ.out he
    injection hv with ha _ hc0
    subst ha hc0
    have S:Hid (Zal 1 Zap B wr (.slice none 0 0) (ls.take 0)):=by rw [List.take_zero];exact Zb4 1 Zap _ _
    have M:Hid (Zal 1 Zap B wr (.slice none 0 0) (ls.drop 0)):=by rw [he];exact Zb4 1 Zap _ _
    clear he
    obtain ⟨v1,A,p1,C,I,_⟩:=Zbk (t:=43) (ty:=43) (base:=wr.heap.size) Zek (fun _=>rfl) Zcr (Jo 9 1 Zap wr.heap.size wr) S.out (by simp<;>omega) (Nat.le_refl _)
    obtain ⟨a1,c1,g⟩:=C.slice
    rw [List.nil_append,List.length_take,Nat.min_eq_left (by omega)] at g
    subst g
    have D:=Za C
    have d:=Za I
    obtain ⟨v2,R,p2,E,H,_⟩:=Jd (t:=43) (ty:=43) (c:=1) (bl:=A.heap.size) (off:=0) (x:=s) Zek (fun _=>rfl) Zcr (D.out.below (Zc A (.cells #[.string s] 9))) (fun jj u K=>by
     rw [Nat.zero_add];exact Zh _ _ _ _ _ (by simpa [Zap] using K)) (by simp<;>omega) (by have:=d.out.size;simp;omega)
    obtain ⟨a2,c2,f⟩:=E.slice
    rw [List.length_append,List.nil_append,List.length_take,Nat.min_eq_left (by omega),show ([s]:List ByteArray).length=1 from rfl] at f
    subst f
    have p:=Za E
    have b:Hid (Below wr.heap.size wr R):=(d.out.trans ((Zc A _).mono d.out.size)).trans H
    obtain ⟨v3,W3,p3,G,b3,_⟩:=Zbk (t:=43) (ty:=43) (base:=wr.heap.size) Zek (fun _=>rfl) Zcr p.out (M.out.keep (b.out.mono hB)) (by simp<;>omega) b.out.size
    have z:=Za G
    have o:=Za (b.out.trans b3)
    clear C I E H G b3
    go_upto_region 7 with (at_builtin;refine Lib.wpList_append_run _ rfl _ _ _ _ rfl _ _ rfl rfl _ _ p1 ?_)
    clear p1
    go_upto_region 8 with (at_builtin;refine Lib.wpList_append_run _ rfl _ _ _ _ rfl _ _ rfl rfl _ _ p2 ?_)
    clear p2
    go_wp2_with (at_builtin;refine Lib.wpList_append_run _ rfl _ _ _ _ rfl _ _ rfl rfl _ _ p3 ?_)
    go_ret
    exact ⟨_,rfl,by rw [P.out];exact Jb.srow (enc:=Zap) (k:=1) (fun _=>rfl) z.out,o.out⟩
   ·obtain ⟨bl,off,rfl,a7,F⟩:=H3.out.resolve_left (by intro e;rw [e] at N;simp at N;omega)
    have S:Hid (Zal 1 Zap B wr (.slice (some ⟨bl,off,none⟩) j c) (ls.take j)):=by
     have h:=T.out
     rw [show ls=ls.take j++ls.drop j from (List.take_append_drop j ls).symm] at h
     have V:=h.take
     rwa [List.length_take,Nat.min_eq_left (by have:=L.out;omega)] at V
    by_cases hcj:c=j
    ·have M:Hid (Zal 1 Zap B wr (.slice (some ⟨bl,off,none⟩) (m - j) (c - j)) (ls.drop j)):=by
      show Zal _ _ _ _ _ _
      rw [List.drop_eq_nil_of_le (by have:=L.out;omega),show m - j=0 by omega]
      exact ⟨_,_,rfl,Nat.zero_le _,by omega,.inl rfl⟩
     clear F
     have a8:j<=c:=by omega
     have a4:(j:Int)<=c:=by omega
     have a3:(j:Int)<=m:=by omega
     obtain ⟨v1,A,p1,C,I,_⟩:=Zbk (t:=43) (ty:=43) (base:=wr.heap.size) Zek (fun _=>rfl) Zcr (Jo 9 1 Zap wr.heap.size wr) S.out (by simp<;>omega) (Nat.le_refl _)
     obtain ⟨a1,c1,g⟩:=C.slice
     rw [List.nil_append,List.length_take,Nat.min_eq_left (by omega)] at g
     subst g
     have D:=Za C
     have d:=Za I
     obtain ⟨v2,R,p2,E,H,_⟩:=Jd (t:=43) (ty:=43) (c:=1) (bl:=A.heap.size) (off:=0) (x:=s) Zek (fun _=>rfl) Zcr (D.out.below (Zc A (.cells #[.string s] 9))) (fun jj u K=>by
      rw [Nat.zero_add];exact Zh _ _ _ _ _ (by simpa [Zap] using K)) (by simp<;>omega) (by have:=d.out.size;simp;omega)
     obtain ⟨a2,c2,f⟩:=E.slice
     rw [List.length_append,List.nil_append,List.length_take,Nat.min_eq_left (by omega),show ([s]:List ByteArray).length=1 from rfl] at f
     subst f
     have p:=Za E
     have b:Hid (Below wr.heap.size wr R):=(d.out.trans ((Zc A _).mono d.out.size)).trans H
     obtain ⟨v3,W3,p3,G,b3,_⟩:=Zbk (t:=43) (ty:=43) (base:=wr.heap.size) Zek (fun _=>rfl) Zcr p.out (M.out.keep (b.out.mono hB)) (by simp<;>omega) b.out.size
     have z:=Za G
     have o:=Za (b.out.trans b3)
     clear C I E H G b3
     go_upto_region 7 with (at_builtin;refine Lib.wpList_append_run _ rfl _ _ _ _ rfl _ _ rfl rfl _ _ p1 ?_)
     clear p1
     go_upto_region 8 with (at_builtin;refine Lib.wpList_append_run _ rfl _ _ _ _ rfl _ _ rfl rfl _ _ p2 ?_)
     clear p2
     go_wp2_with (at_builtin;refine Lib.wpList_append_run _ rfl _ _ _ _ rfl _ _ rfl rfl _ _ p3 ?_)
     go_ret
     exact ⟨_,rfl,by rw [P.out];exact Jb.srow (enc:=Zap) (k:=1) (fun _=>rfl) z.out,o.out⟩
    ·have M:Hid (Zal 1 Zap B wr (.slice (some ⟨bl,off+j,none⟩) (m - j) (c - j)) (ls.drop j)):=by
      exact Zqy T.out j (by omega)
     clear F
     have a8:j<=c:=by omega
     have a4:(j:Int)<=c:=by omega
     have a3:(j:Int)<=m:=by omega
     obtain ⟨v1,A,p1,C,I,_⟩:=Zbk (t:=43) (ty:=43) (base:=wr.heap.size) Zek (fun _=>rfl) Zcr (Jo 9 1 Zap wr.heap.size wr) S.out (by simp<;>omega) (Nat.le_refl _)
     obtain ⟨a1,c1,g⟩:=C.slice
     rw [List.nil_append,List.length_take,Nat.min_eq_left (by omega)] at g
     subst g
     have D:=Za C
     have d:=Za I
     obtain ⟨v2,R,p2,E,H,_⟩:=Jd (t:=43) (ty:=43) (c:=1) (bl:=A.heap.size) (off:=0) (x:=s) Zek (fun _=>rfl) Zcr (D.out.below (Zc A (.cells #[.string s] 9))) (fun jj u K=>by
      rw [Nat.zero_add];exact Zh _ _ _ _ _ (by simpa [Zap] using K)) (by simp<;>omega) (by have:=d.out.size;simp;omega)
     obtain ⟨a2,c2,f⟩:=E.slice
     rw [List.length_append,List.nil_append,List.length_take,Nat.min_eq_left (by omega),show ([s]:List ByteArray).length=1 from rfl] at f
     subst f
     have p:=Za E
     have b:Hid (Below wr.heap.size wr R):=(d.out.trans ((Zc A _).mono d.out.size)).trans H
     obtain ⟨v3,W3,p3,G,b3,_⟩:=Zbk (t:=43) (ty:=43) (base:=wr.heap.size) Zek (fun _=>rfl) Zcr p.out (M.out.keep (b.out.mono hB)) (by simp<;>omega) b.out.size
     have z:=Za G
     have o:=Za (b.out.trans b3)
     clear C I E H G b3
     go_upto_region 7 with (at_builtin;refine Lib.wpList_append_run _ rfl _ _ _ _ rfl _ _ rfl rfl _ _ p1 ?_)
     clear p1
     go_upto_region 8 with (at_builtin;refine Lib.wpList_append_run _ rfl _ _ _ _ rfl _ _ rfl rfl _ _ p2 ?_)
     clear p2
     go_wp2_with (at_builtin;refine Lib.wpList_append_run _ rfl _ _ _ _ rfl _ _ rfl rfl _ _ p3 ?_)
     go_ret
     exact ⟨_,rfl,by rw [P.out];exact Jb.srow (enc:=Zap) (k:=1) (fun _=>rfl) z.out,o.out⟩
end Go.Proofs.YthfilnflgahcjaaGreatDoor

namespace Go.Proofs.YthfilnflgahcjaaGreatDoor
open Go.RowKit Go.Shelf
set_option linter.all false
def Zj0:Zak:=⟨0,0,[],[],[],[]⟩
set_option maxRecDepth 100000 in
set_option maxHeartbeats 4000000 in
theorem Zv9 (g:Zx) (v:Value) (B:Nat) (w:World) (hB:B<=w.heap.size) (C:Env w) (h:Zp B w v g) (I:Jbj g) (E:-9223372036854775808<=g.nn/\g.nn<=9223372036854775807) (F:-9223372036854775808<=g.nr/\g.nr<=9223372036854775807) (D:∀ r ∈ g.rels,W64 r.fr/\W64 r.tt) (G:Zaz g=false) :
  Calls Tryz.prog 11 #[v] w fun e w'=>e=.returned (.tuple #[Za4 Zj0 (.slice none 0 0) (.slice none 0 0) (.slice none 0 0) (.slice none 0 0),.int .i64 2])/\Below w.heap.size w w':=by
 have i:=Za (fun (W:World) (hb:Below w.heap.size w W)=>Zi6 g B _ W (Nat.le_trans hB hb.size) (C.below hb C.room) (h.below (hb.mono hB)) I E F D)
 rw [if_neg (by rw [G];simp)] at i
 obtain ⟨na,nc,ra,rc,rfl,_,_⟩:=h
 obtain ⟨l1,p⟩:∃ m,g.nodes.length=m:=⟨_,rfl⟩
 obtain ⟨l2,y⟩:∃ m,g.rels.length=m:=⟨_,rfl⟩
 rw [p,y] at i |-
 generalize g.nn=nn at *
 generalize g.nr=nr at *
 clear p y C I
 obtain ⟨n,f⟩:∃ W,w.alloc (.cells #[.slice na l1 nc,.slice ra l2 rc,.int .i64 nn,.int .i64 nr] 25)=W:=⟨_,rfl⟩
 have s:Rec n w.heap.size #[.slice na l1 nc,.slice ra l2 rc,.int .i64 nn,.int .i64 nr] 25:=by rw [<- f];exact Zk _ _ _
 have A:n.heap.size=w.heap.size+1:=by rw [<- f];simp
 have u:Below w.heap.size w n:=by rw [<- f];exact (Below.refl _ _).alloc (Nat.le_refl _) _
 obtain ⟨t,j⟩:∃ W,n.alloc (.cells #[.int .i64 0,.int .i64 0,.slice none 0 0,.slice none 0 0,.slice none 0 0,.slice none 0 0] 33)=W:=⟨_,rfl⟩
 have k:Below n.heap.size n t:=by rw [<- j];exact (Below.refl _ _).alloc (Nat.le_refl _) _
 have q:Rec t (w.heap.size+1) #[.int .i64 0,.int .i64 0,.slice none 0 0,.slice none 0 0,.slice none 0 0,.slice none 0 0] 33:=by rw [<- j,<- A];exact Zk _ _ _
 have d:Rec t w.heap.size #[.slice na l1 nc,.slice ra l2 rc,.int .i64 nn,.int .i64 nr] 25:=s.below k (by omega)
 have l:Below w.heap.size w t:=Below.on u k
 have O:=Za l
 have x:=Za q
 have T:=Za (i.out t l)
 have c0:=d.cell 0 rfl
 have c1:=d.cell 1 rfl
 have c2:=d.cell 2 rfl
 have c3:=d.cell 3 rfl
 clear s u k d q l i
 go_enter Tryz.func11,Tryz.ntmps11
 go_upto_region 1 with fail
 try rw [f]
 try rw [j]
 clear f j A
 go_upto_region 2 with (go_at_call 13;refine T.out.mono ?_;rintro e U ⟨rfl,L⟩;have K:=Za L;clear L)
 have b:=x.out.below K.out x.out.lt
 have d0:=b.cell 0 rfl
 have d1:=b.cell 1 rfl
 have d2:=b.cell 2 rfl
 have d3:=b.cell 3 rfl
 have d4:=b.cell 4 rfl
 have d5:=b.cell 5 rfl
 have X:=b.z 0
 have z1:=b.z 1
 have z2:=b.z 2
 have Y:=b.z 3
 have z4:=b.z 4
 have V:=b.z 5
 have M:=Za (Jm (Jm (Jm (Jm (Jm (Jm (Zev b) 0 (.int .i64 0)) 1 (.int .i64 0)) 2 (.slice none 0 0)) 3 (.slice none 0 0)) 4 (.slice none 0 0)) 5 (.slice none 0 0))
 clear b c0 c1 c2 c3
 go_wp2_with fail
 have c:=M.out.r
 simp only [List.setIfInBounds_toArray,List.set_cons_succ,List.set_cons_zero] at c
 obtain ⟨N,H⟩:∃ N,N=(((((U.setCell ⟨w.heap.size+1,0,none⟩ (.int .i64 0)).setCell ⟨w.heap.size+1,1,none⟩ (.int .i64 0)).setCell ⟨w.heap.size+1,2,none⟩ (.slice none 0 0)).setCell ⟨w.heap.size+1,3,none⟩ (.slice none 0 0)).setCell ⟨w.heap.size+1,4,none⟩ (.slice none 0 0)).setCell ⟨w.heap.size+1,5,none⟩ (.slice none 0 0):=⟨_,rfl⟩
 have o:=M.out.below
 rw [<- H] at c o |-
 have Q:=c.cell 0 rfl
 have e1:=c.cell 1 rfl
 have e2:=c.cell 2 rfl
 have S:=c.cell 3 rfl
 have R:=c.cell 4 rfl
 have P:=c.cell 5 rfl
 refine bodyPost_ret (v:=.tuple #[.agg #[.int .i64 0,.int .i64 0,.slice none 0 0,.slice none 0 0,.slice none 0 0,.slice none 0 0],.int .i64 2]) ?_ rfl ⟨rfl,(Below.on O.out K.out).trans (o.mono (by omega))⟩
 simp [results,Tryz.results11,go_sem,Q,e1,e2,S,R,P]
end Go.Proofs.YthfilnflgahcjaaGreatDoor

