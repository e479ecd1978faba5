import Derived.Test.YteddjlbfbpecjaaGreatDoorCheck
namespace Go.Proofs.YteddjlbfbpecjaaGreatDoor
set_option linter.all false
section
open Go.RowKit Go.Shelf
def Zas (t:Zi):Prop:=t.height<100000000/\Jb (t.pre 1)<4611686018427387904
set_option maxHeartbeats 1000000 in
theorem Zpq (ts:List Zi) (B:Nat) (la:Option Addr) (lc:Nat) (w:World) (M:B<=w.heap.size) (hl:Zbi B w la ts) (h1:ts.length<=lc) (h2:lc<=maxLen) (hT:Zhx w) (S:∀ t ∈ ts,Zas t) :
  Calls Tryz.prog 185 #[.slice la ts.length lc] w fun e w'=>e=.returned (.bool (ts.any fun t=>checkN t != 0))/\Below w.heap.size w w':=by
 unfold maxLen at h2
 have HM:=Zb S
 clear S
 go_enter Tryz.func185,Tryz.ntmps185
 go_wp2_with fail
 go_loopw [7] (fun i wr=>∃ j:Nat,j<=ts.length/\i=.int .i64 j/\Below w.heap.size w wr/\(ts.take j).any (fun t=>checkN t != 0)=false) (fun i _=>ts.length - (intOf i).toNat)
 case atStart=>exact ⟨0,Nat.zero_le _,rfl,Below.refl _ _,rfl⟩
 case round =>
  obtain ⟨j,hj,rfl,b,C⟩:=hrel
  have y:=Zb C
  clear C
  by_cases hlt:j<ts.length
  ·obtain ⟨I,off,rfl,L,q⟩:=hl.resolve_left (by intro e;subst e;simp at hlt)
   obtain ⟨⟨V,R,U,T,P,N⟩,K⟩:∃ t,ts[j]?=some t:=⟨_,List.getElem?_eq_getElem hlt⟩
   obtain ⟨Y,jc,jl,jd,⟨c0,c1,c2,c3,c4,c5⟩,A⟩:=(q.below (b.mono M) L).cells K
   have g:=HM.out _ (List.mem_of_getElem? K)
   have X:=Zb K
   have f:Below wr.heap.size wr (wr.alloc (.cells #[.int .i64 V,.bool R,.int .i64 U,.string T,.slice Y P.length jc,.slice jl N.length jd] 60)):=(Below.refl _ _).alloc (Nat.le_refl _) _
   have Q:=Zb (Zm6 _ _ _ ((A.below (f.mono (Nat.le_trans M b.size))).mono (Nat.le_trans (Nat.le_trans M b.size) f.size)) ((hT.below b).below f) g.1 g.2)
   clear K q A g f
   go_wp2_with fail
   refine Q.out.mono ?_
   rintro e w' ⟨rfl,F⟩
   have r:Hid (Below w.heap.size w w'):=Za b (Zfe F)
   generalize E:checkN (.mk V R U T P N)=cn at *
   have H:=Zb E
   clear F Q E c0 c1 c2 c3 c4 c5
   by_cases z:cn=0
   ·have O:(cn != 0)=false:=by simp [z]
    go_wp2_with fail
    go_roundw
    case rel =>
     refine ⟨j+1,by omega,by go_num,r.out,?_⟩
     rw [List.take_add_one,X.out,List.any_append,y.out]
     simp [H.out,z]
    case measure=>simp [intOf];omega
   ·have O:(cn != 0)=true:=by simp [z]
    go_wp2_with fail
    go_ret
    refine ⟨?_,r.out⟩
    have:ts.any (fun t=>checkN t != 0)=true:=by
     rw [List.any_eq_true]
     exact ⟨_,List.mem_of_getElem? X.out,by rw [H.out];exact O⟩
    rw [this];rfl
  ·go_wp2_with fail
   go_ret
   refine ⟨?_,b⟩
   have:=y.out
   rw [List.take_of_length_le (by omega)] at this
   rw [this];rfl
theorem Jao {W:World} {I B:Nat} {k:Int} {x:Bool} {n:Int} {s:ByteArray} {ka:Option Addr} {kc:Nat} {la:Option Addr} {lc:Nat} {ks:List ByteArray} {ts:List Zi}
  {G:Int} {D:Bool} {u:Int} {p:ByteArray} {h:Option Addr} {o:Nat} {l:Option Addr} {m:Nat} {c:List ByteArray} {d:List Zi}
  (hc:W.heap[I]?=some (.cells #[.int .i64 k,.bool x,.int .i64 n,.string s,.slice ka ks.length kc,.slice la ts.length lc,.int .i64 G,.bool D,.int .i64 u,.string p,.slice h c.length o,.slice l d.length m] 60 (0,0)))
  (h1:Zaw B W (.agg #[.int .i64 k,.bool x,.int .i64 n,.string s,.slice ka ks.length kc,.slice la ts.length lc]) (.mk k x n s ks ts))
  (h2:Zaw B W (.agg #[.int .i64 G,.bool D,.int .i64 u,.string p,.slice h c.length o,.slice l d.length m]) (.mk G D u p c d)) :
  KidsLie B W I 0 [.mk k x n s ks ts,.mk G D u p c d]:=by
 have a:∀ i v,(#[Value.int .i64 k,.bool x,.int .i64 n,.string s,.slice ka ks.length kc,.slice la ts.length lc,.int .i64 G,.bool D,.int .i64 u,.string p,.slice h c.length o,.slice l d.length m]:Array Value)[i]?=some v->W.cell? ⟨I,i,none⟩=some v:=by
  intro i v hi;unfold World.cell?;simp only [hc];simpa using hi
 simp only [KidsLie]
 refine ⟨⟨_,_,_,_,_,_,⟨a 0 _ rfl,a 1 _ rfl,a 2 _ rfl,a 3 _ rfl,a 4 _ rfl,a 5 _ rfl⟩,h1⟩,⟨_,_,_,_,_,_,⟨a 6 _ rfl,a 7 _ rfl,a 8 _ rfl,a 9 _ rfl,a 10 _ rfl,a 11 _ rfl⟩,h2⟩,trivial⟩
end
section
open Go.RowKit Go.Shelf
def Zcu (T C:Zi):Bool:=decide (checkN T=0/\checkN C=0)&&(Zho T C==0)
set_option maxHeartbeats 1000000 in
theorem Zrb (T C:Zi) (B:Nat) (v v':Value) (w:World) (O:B<=w.heap.size) (P:Zaw B w v T) (y:Zaw B w v' C) (hT:Zhx w) (X:Zas T) (K:Zas C) :
  Calls Tryz.prog 152 #[v,v'] w fun e w'=>e=.returned (.bool (Zcu T C))/\Below w.heap.size w w':=by
 obtain ⟨k,x,n,s,ks,ts⟩:=T
 obtain ⟨o,m,l,j,a,b⟩:=C
 have HV:=Zb P
 have Q:=Zb y
 simp only [Zaw] at P y
 obtain ⟨ka,kc,la,lc,rfl,_,_,_⟩:=P
 obtain ⟨c,h,d,f,rfl,_,_,_⟩:=y
 obtain ⟨p,r⟩:∃ p,((w.alloc (.cells #[.int .i64 k,.bool x,.int .i64 n,.string s,.slice ka ks.length kc,.slice la ts.length lc] 60)).alloc (.cells #[.int .i64 o,.bool m,.int .i64 l,.string j,.slice c a.length h,.slice d b.length f] 60)).alloc (.cells #[.int .i64 k,.bool x,.int .i64 n,.string s,.slice ka ks.length kc,.slice la ts.length lc,.int .i64 o,.bool m,.int .i64 l,.string j,.slice c a.length h,.slice d b.length f] 60)=p:=⟨_,rfl⟩
 have D:∀ W,Below p.heap.size p W->Below w.heap.size w W/\(∀ i v,(#[Value.int .i64 k,.bool x,.int .i64 n,.string s,.slice ka ks.length kc,.slice la ts.length lc]:Array Value)[i]?=some v->W.cell? ⟨w.heap.size,i,none⟩=some v) /\
   (∀ i v,(#[Value.int .i64 o,.bool m,.int .i64 l,.string j,.slice c a.length h,.slice d b.length f]:Array Value)[i]?=some v->W.cell? ⟨w.heap.size+1,i,none⟩=some v):=fun W U=>by
  rw [<- r] at U
  exact Zgl (((Below.refl _ _).alloc (Nat.le_refl _) _).trans (U.mono (by simp)))
 have L:p.heap[w.heap.size+1+1]?=some (.cells #[.int .i64 k,.bool x,.int .i64 n,.string s,.slice ka ks.length kc,.slice la ts.length lc,.int .i64 o,.bool m,.int .i64 l,.string j,.slice c a.length h,.slice d b.length f] 60 (0,0)):=by
  rw [<- r]
  have:=World.alloc_heap_new ((w.alloc (.cells #[.int .i64 k,.bool x,.int .i64 n,.string s,.slice ka ks.length kc,.slice la ts.length lc] 60)).alloc (.cells #[.int .i64 o,.bool m,.int .i64 l,.string j,.slice c a.length h,.slice d b.length f] 60)) (.cells #[.int .i64 k,.bool x,.int .i64 n,.string s,.slice ka ks.length kc,.slice la ts.length lc,.int .i64 o,.bool m,.int .i64 l,.string j,.slice c a.length h,.slice d b.length f] 60)
  simpa only [World.size_alloc] using this
 have E:w.heap.size+1+1<p.heap.size:=by rw [<- r];simp
 have q:Below w.heap.size w p:=(D p (Below.refl _ _)).1
 have F:=Zb ((HV.out.below (q.mono O)).mono (Nat.le_trans O q.size))
 have u:=Zb ((Q.out.below (q.mono O)).mono (Nat.le_trans O q.size))
 have V:=Zb (Zpq [.mk k x n s ks ts,.mk o m l j a b] p.heap.size (some ⟨w.heap.size+1+1,0,none⟩) 2 p (Nat.le_refl _) (.inr ⟨_,_,rfl,E,Jao L F.out u.out⟩) (Nat.le_refl _) (by unfold maxLen;omega) (hT.below q)
  (by intro t Y;simp only [List.mem_cons,List.not_mem_nil,or_false] at Y;rcases Y with rfl | rfl;exact X;exact K))
 have I:=Zb D
 have H:=Zb r
 clear D r L X K
 go_enter Tryz.func152,Tryz.ntmps152
 go_wp2_with fail
 rw [H.out]
 refine V.out.mono ?_
 rintro e S ⟨rfl,g⟩
 obtain ⟨M,z,A⟩:=I.out S g
 have q0:=z 0 _ rfl
 have q1:=z 1 _ rfl
 have q2:=z 2 _ rfl
 have q3:=z 3 _ rfl
 have q4:=z 4 _ rfl
 have q5:=z 5 _ rfl
 have r0:=A 0 _ rfl
 have r1:=A 1 _ rfl
 have r2:=A 2 _ rfl
 have r3:=A 3 _ rfl
 have r4:=A 4 _ rfl
 have r5:=A 5 _ rfl
 have HQ:=Zb (Zym _ p.heap.size _ _ _ S g.size (F.out.below g) (u.out.below g))
 have a0:=g.size
 clear z A I V H g
 cases hany:[Zi.mk k x n s ks ts,.mk o m l j a b].any (fun t=>checkN t != 0) with
 | true =>
  have R:Hid (Zcu (.mk k x n s ks ts) (.mk o m l j a b)=false):=by
   show _=_
   unfold Zcu
   rw [decide_eq_false,Bool.false_and]
   rintro ⟨h1,h2⟩
   simp [h1,h2] at hany
  clear hany
  go_wp2_with fail
  go_ret
  exact ⟨by rw [R.out];rfl,M⟩
 | false =>
  have R:Hid (Zcu (.mk k x n s ks ts) (.mk o m l j a b)=(Zho (.mk k x n s ks ts) (.mk o m l j a b)==0)):=by
   show _=_
   unfold Zcu
   simp at hany
   rw [decide_eq_true hany,Bool.true_and]
  generalize Zho (.mk k x n s ks ts) (.mk o m l j a b)=ot at *
  clear hany
  go_wp2_with fail
  refine HQ.out.mono ?_
  rintro e w5 ⟨rfl,G⟩
  have N:=Za M G
  clear G q0 q1 q2 q3 q4 q5 r0 r1 r2 r3 r4 r5
  go_wp2_with fail
  go_ret
  exact ⟨by rw [R.out];rfl,N⟩
end
section
open Go.RowKit Go.Shelf
def Zar (k:Int):Bool:=k==1||k==2||k==3
theorem Znp (k:Int) (w:World):Calls Tryz.prog 169 #[.int .i64 k] w fun e w'=>e=.returned (.bool (Zar k))/\w'=w:=by
 go_enter Tryz.func169,Tryz.ntmps169
 by_cases h1:k=1
 ·subst h1;go_wp2_with fail;go_ret;exact ⟨rfl,rfl⟩
 by_cases h2:k=2
 ·subst h2;go_wp2_with fail;go_ret;exact ⟨rfl,rfl⟩
 go_wp2_with fail
 go_ret
 have e1:(k==1)=false:=by simpa using h1
 have e2:(k==2)=false:=by simpa using h2
 refine ⟨?_,rfl⟩
 unfold Zar
 rw [e1,e2]
 rfl
end
section
open Go.RowKit Go.Shelf
def Zb2 (ts:List Zi):Int:=match ts with | []=>0 | t::_=>t.kind
def Zxd (ts:List Zi):Bool:=ts.all fun t=>t.kind==Zb2 ts
def Zen (T:Zi):Bool:=Zxd T.kids&&(if T.kind=4 then (if T.kids=[] then true else Zar (Zb2 T.kids)) else Zar T.kind)
def Zg3 (T:Zi):Bool:=if T.kind=4 then T.kids.all fun t=>Zar t.kind&&(t.kind==Zb2 T.kids) else Zar T.kind
theorem Zgd {p:Zi->Bool} {ts:List Zi} {j:Nat} {t:Zi} (h:(ts.take j).all p=true) (a:ts[j]?=some t) (b:p t=true):(ts.take (j+1)).all p=true:=by
 rw [List.take_add_one,a,List.all_append,h];simp [b]
theorem Zjd {p:Zi->Bool} {ts:List Zi} {j:Nat} {t:Zi} (a:ts[j]?=some t) (b:p t=false):ts.all p=false:=by
 rw [List.all_eq_false];exact ⟨t,List.mem_of_getElem? a,by simp [b]⟩
theorem KidsLie.first {B c off:Nat} {w:World} {ts:List Zi} (h:KidsLie B w c off ts) (h0:0<ts.length):w.cell? ⟨c,off,none⟩=some (.int .i64 (Zb2 ts)):=by
 obtain ⟨⟨d,f,k,g,e,i⟩,a⟩:∃ t,ts[0]?=some t:=⟨_,List.getElem?_eq_getElem h0⟩
 obtain ⟨_,_,_,_,⟨c0,_⟩,_⟩:=h.cells a
 cases ts with
 | nil=>simp at h0
 | cons t r =>
  simp at a;subst a
  simpa [Zb2,Zi.kind] using c0
end
