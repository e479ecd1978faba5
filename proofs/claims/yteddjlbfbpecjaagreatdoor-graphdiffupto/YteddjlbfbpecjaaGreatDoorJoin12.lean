import Derived.Test.YteddjlbfbpecjaaGreatDoorCheck
namespace Go.Proofs.YteddjlbfbpecjaaGreatDoor
set_option linter.all false
section
open Go.RowKit Go.Shelf
def Zas (t:Zi):Prop:=t.height<100000000/\Jb (t.pre 1)<4611686018427387904
set_option maxHeartbeats 1000000 in
theorem Zpq (ts:List Zi) (B:Nat) (la:Option Addr) (lc:Nat) (w:World) (L:B<=w.heap.size) (hl:Zbi B w la ts) (h1:ts.length<=lc) (h2:lc<=maxLen) (hT:Zhx w) (T:∀ t ∈ ts,Zas t) :
  Calls Tryz.prog 185 #[.slice la ts.length lc] w fun e w'=>e=.returned (.bool (ts.any fun t=>checkN t != 0))/\Below w.heap.size w w':=by
 unfold maxLen at h2
 have HM:=Zb T
 clear T
 go_enter Tryz.func185,Tryz.ntmps185
 go_wp2_with fail
 go_loopw [7] (fun i wr=>∃ j:Nat,j<=ts.length/\i=.int .i64 j/\Below w.heap.size w wr/\(ts.take j).any (fun t=>checkN t != 0)=false) (fun i _=>ts.length - (intOf i).toNat)
 case atStart=>exact ⟨0,Nat.zero_le _,rfl,Below.refl _ _,rfl⟩
 case round =>
  obtain ⟨j,hj,rfl,b,p⟩:=hrel
  have A:=Zb p
  clear p
  by_cases hlt:j<ts.length
  ·obtain ⟨K,off,rfl,M,r⟩:=hl.resolve_left (by intro e;subst e;simp at hlt)
   obtain ⟨⟨X,Q,U,N,V,S⟩,I⟩:∃ t,ts[j]?=some t:=⟨_,List.getElem?_eq_getElem hlt⟩
   obtain ⟨ja,jc,jl,Y,⟨c0,c1,c2,c3,c4,c5⟩,H⟩:=(r.below (b.mono L) M).cells I
   have m:=HM.out _ (List.mem_of_getElem? I)
   have R:=Zb I
   have f:Below wr.heap.size wr (wr.alloc (.cells #[.int .i64 X,.bool Q,.int .i64 U,.string N,.slice ja V.length jc,.slice jl S.length Y] 60)):=(Below.refl _ _).alloc (Nat.le_refl _) _
   have P:=Zb (Zm6 _ _ _ ((H.below (f.mono (Nat.le_trans L b.size))).mono (Nat.le_trans (Nat.le_trans L b.size) f.size)) ((hT.below b).below f) m.1 m.2)
   clear I r H m f
   go_wp2_with fail
   refine P.out.mono ?_
   rintro e w' ⟨rfl,y⟩
   have D:Hid (Below w.heap.size w w'):=Za b (Zfe y)
   generalize C:checkN (.mk X Q U N V S)=cn at *
   have E:=Zb C
   clear y P C c0 c1 c2 c3 c4 c5
   by_cases z:cn=0
   ·have O:(cn != 0)=false:=by simp [z]
    go_wp2_with fail
    go_roundw
    case rel =>
     refine ⟨j+1,by omega,by go_num,D.out,?_⟩
     rw [List.take_add_one,R.out,List.any_append,A.out]
     simp [E.out,z]
    case measure=>simp [intOf];omega
   ·have O:(cn != 0)=true:=by simp [z]
    go_wp2_with fail
    go_ret
    refine ⟨?_,D.out⟩
    have:ts.any (fun t=>checkN t != 0)=true:=by
     rw [List.any_eq_true]
     exact ⟨_,List.mem_of_getElem? R.out,by rw [E.out];exact O⟩
    rw [this];rfl
  ·go_wp2_with fail
   go_ret
   refine ⟨?_,b⟩
   have:=A.out
   rw [List.take_of_length_le (by omega)] at this
   rw [this];rfl
theorem Jao {W:World} {K B:Nat} {k:Int} {x:Bool} {n:Int} {s:ByteArray} {ka:Option Addr} {kc:Nat} {la:Option Addr} {lc:Nat} {ks:List ByteArray} {ts:List Zi}
  {q:Int} {F:Bool} {G:Int} {u:ByteArray} {h:Option Addr} {g:Nat} {l:Option Addr} {o:Nat} {c:List ByteArray} {d:List Zi}
  (hc:W.heap[K]?=some (.cells #[.int .i64 k,.bool x,.int .i64 n,.string s,.slice ka ks.length kc,.slice la ts.length lc,.int .i64 q,.bool F,.int .i64 G,.string u,.slice h c.length g,.slice l d.length o] 60 (0,0)))
  (h1:Zaw B W (.agg #[.int .i64 k,.bool x,.int .i64 n,.string s,.slice ka ks.length kc,.slice la ts.length lc]) (.mk k x n s ks ts))
  (h2:Zaw B W (.agg #[.int .i64 q,.bool F,.int .i64 G,.string u,.slice h c.length g,.slice l d.length o]) (.mk q F G u c d)) :
  KidsLie B W K 0 [.mk k x n s ks ts,.mk q F G u c d]:=by
 have a:∀ i v,(#[Value.int .i64 k,.bool x,.int .i64 n,.string s,.slice ka ks.length kc,.slice la ts.length lc,.int .i64 q,.bool F,.int .i64 G,.string u,.slice h c.length g,.slice l d.length o]:Array Value)[i]?=some v->W.cell? ⟨K,i,none⟩=some v:=by
  intro i v hi;unfold World.cell?;simp only [hc];simpa using hi
 simp only [KidsLie]
 refine ⟨⟨_,_,_,_,_,_,⟨a 0 _ rfl,a 1 _ rfl,a 2 _ rfl,a 3 _ rfl,a 4 _ rfl,a 5 _ rfl⟩,h1⟩,⟨_,_,_,_,_,_,⟨a 6 _ rfl,a 7 _ rfl,a 8 _ rfl,a 9 _ rfl,a 10 _ rfl,a 11 _ rfl⟩,h2⟩,trivial⟩
end
section
open Go.RowKit Go.Shelf
def Zcu (T z:Zi):Bool:=decide (checkN T=0/\checkN z=0)&&(Zho T z==0)
set_option maxHeartbeats 1000000 in
theorem Zrb (T z:Zi) (B:Nat) (v v':Value) (w:World) (O:B<=w.heap.size) (P:Zaw B w v T) (A:Zaw B w v' z) (hT:Zhx w) (X:Zas T) (I:Zas z) :
  Calls Tryz.prog 152 #[v,v'] w fun e w'=>e=.returned (.bool (Zcu T z))/\Below w.heap.size w w':=by
 obtain ⟨k,x,n,s,ks,ts⟩:=T
 obtain ⟨j,m,o,l,a,b⟩:=z
 have HV:=Zb P
 have R:=Zb A
 simp only [Zaw] at P A
 obtain ⟨ka,kc,la,lc,rfl,_,_,_⟩:=P
 obtain ⟨d,c,f,h,rfl,_,_,_⟩:=A
 obtain ⟨q,p⟩:∃ q,((w.alloc (.cells #[.int .i64 k,.bool x,.int .i64 n,.string s,.slice ka ks.length kc,.slice la ts.length lc] 60)).alloc (.cells #[.int .i64 j,.bool m,.int .i64 o,.string l,.slice d a.length c,.slice f b.length h] 60)).alloc (.cells #[.int .i64 k,.bool x,.int .i64 n,.string s,.slice ka ks.length kc,.slice la ts.length lc,.int .i64 j,.bool m,.int .i64 o,.string l,.slice d a.length c,.slice f b.length h] 60)=q:=⟨_,rfl⟩
 have C:∀ W,Below q.heap.size q W->Below w.heap.size w W/\(∀ i v,(#[Value.int .i64 k,.bool x,.int .i64 n,.string s,.slice ka ks.length kc,.slice la ts.length lc]:Array Value)[i]?=some v->W.cell? ⟨w.heap.size,i,none⟩=some v) /\
   (∀ i v,(#[Value.int .i64 j,.bool m,.int .i64 o,.string l,.slice d a.length c,.slice f b.length h]:Array Value)[i]?=some v->W.cell? ⟨w.heap.size+1,i,none⟩=some v):=fun W S=>by
  rw [<- p] at S
  exact Zgl (((Below.refl _ _).alloc (Nat.le_refl _) _).trans (S.mono (by simp)))
 have K:q.heap[w.heap.size+1+1]?=some (.cells #[.int .i64 k,.bool x,.int .i64 n,.string s,.slice ka ks.length kc,.slice la ts.length lc,.int .i64 j,.bool m,.int .i64 o,.string l,.slice d a.length c,.slice f b.length h] 60 (0,0)):=by
  rw [<- p]
  have:=World.alloc_heap_new ((w.alloc (.cells #[.int .i64 k,.bool x,.int .i64 n,.string s,.slice ka ks.length kc,.slice la ts.length lc] 60)).alloc (.cells #[.int .i64 j,.bool m,.int .i64 o,.string l,.slice d a.length c,.slice f b.length h] 60)) (.cells #[.int .i64 k,.bool x,.int .i64 n,.string s,.slice ka ks.length kc,.slice la ts.length lc,.int .i64 j,.bool m,.int .i64 o,.string l,.slice d a.length c,.slice f b.length h] 60)
  simpa only [World.size_alloc] using this
 have G:w.heap.size+1+1<q.heap.size:=by rw [<- p];simp
 have r:Below w.heap.size w q:=(C q (Below.refl _ _)).1
 have L:=Zb ((HV.out.below (r.mono O)).mono (Nat.le_trans O r.size))
 have u:=Zb ((R.out.below (r.mono O)).mono (Nat.le_trans O r.size))
 have V:=Zb (Zpq [.mk k x n s ks ts,.mk j m o l a b] q.heap.size (some ⟨w.heap.size+1+1,0,none⟩) 2 q (Nat.le_refl _) (.inr ⟨_,_,rfl,G,Jao K L.out u.out⟩) (Nat.le_refl _) (by unfold maxLen;omega) (hT.below r)
  (by intro t Y;simp only [List.mem_cons,List.not_mem_nil,or_false] at Y;rcases Y with rfl | rfl;exact X;exact I))
 have F:=Zb C
 have M:=Zb p
 clear C p K X I
 go_enter Tryz.func152,Tryz.ntmps152
 go_wp2_with fail
 rw [M.out]
 refine V.out.mono ?_
 rintro e U ⟨rfl,g⟩
 obtain ⟨N,D,y⟩:=F.out U g
 have q0:=D 0 _ rfl
 have q1:=D 1 _ rfl
 have q2:=D 2 _ rfl
 have q3:=D 3 _ rfl
 have q4:=D 4 _ rfl
 have q5:=D 5 _ rfl
 have r0:=y 0 _ rfl
 have r1:=y 1 _ rfl
 have r2:=y 2 _ rfl
 have r3:=y 3 _ rfl
 have r4:=y 4 _ rfl
 have r5:=y 5 _ rfl
 have HQ:=Zb (Zym _ q.heap.size _ _ _ U g.size (L.out.below g) (u.out.below g))
 have a0:=g.size
 clear D y F V M g
 cases hany:[Zi.mk k x n s ks ts,.mk j m o l a b].any (fun t=>checkN t != 0) with
 | true =>
  have Q:Hid (Zcu (.mk k x n s ks ts) (.mk j m o l a b)=false):=by
   show _=_
   unfold Zcu
   rw [decide_eq_false,Bool.false_and]
   rintro ⟨h1,h2⟩
   simp [h1,h2] at hany
  clear hany
  go_wp2_with fail
  go_ret
  exact ⟨by rw [Q.out];rfl,N⟩
 | false =>
  have Q:Hid (Zcu (.mk k x n s ks ts) (.mk j m o l a b)=(Zho (.mk k x n s ks ts) (.mk j m o l a b)==0)):=by
   show _=_
   unfold Zcu
   simp at hany
   rw [decide_eq_true hany,Bool.true_and]
  generalize Zho (.mk k x n s ks ts) (.mk j m o l a b)=ot at *
  clear hany
  go_wp2_with fail
  refine HQ.out.mono ?_
  rintro e w5 ⟨rfl,H⟩
  have E:=Za N H
  clear H q0 q1 q2 q3 q4 q5 r0 r1 r2 r3 r4 r5
  go_wp2_with fail
  go_ret
  exact ⟨by rw [Q.out];rfl,E⟩
end
section
open Go.RowKit Go.Shelf
def Zar (k:Int):Bool:=k==1||k==2||k==3
theorem Znp (k:Int) (w:World):Calls Tryz.prog 169 #[.int .i64 k] w fun e w'=>e=.returned (.bool (Zar k))/\w'=w:=by
 go_enter Tryz.func169,Tryz.ntmps169
 by_cases h1:k=1
 ·subst h1;go_wp2_with fail;go_ret;exact ⟨rfl,rfl⟩
 by_cases h2:k=2
 ·subst h2;go_wp2_with fail;go_ret;exact ⟨rfl,rfl⟩
 go_wp2_with fail
 go_ret
 have e1:(k==1)=false:=by simpa using h1
 have e2:(k==2)=false:=by simpa using h2
 refine ⟨?_,rfl⟩
 unfold Zar
 rw [e1,e2]
 rfl
end
section
open Go.RowKit Go.Shelf
def Zb2 (ts:List Zi):Int:=match ts with | []=>0 | t::_=>t.kind
def Zxd (ts:List Zi):Bool:=ts.all fun t=>t.kind==Zb2 ts
def Zen (T:Zi):Bool:=Zxd T.kids&&(if T.kind=4 then (if T.kids=[] then true else Zar (Zb2 T.kids)) else Zar T.kind)
def Zg3 (T:Zi):Bool:=if T.kind=4 then T.kids.all fun t=>Zar t.kind&&(t.kind==Zb2 T.kids) else Zar T.kind
theorem Zgd {p:Zi->Bool} {ts:List Zi} {j:Nat} {t:Zi} (h:(ts.take j).all p=true) (a:ts[j]?=some t) (b:p t=true):(ts.take (j+1)).all p=true:=by
 rw [List.take_add_one,a,List.all_append,h];simp [b]
theorem Zjd {p:Zi->Bool} {ts:List Zi} {j:Nat} {t:Zi} (a:ts[j]?=some t) (b:p t=false):ts.all p=false:=by
 rw [List.all_eq_false];exact ⟨t,List.mem_of_getElem? a,by simp [b]⟩
theorem KidsLie.first {B c off:Nat} {w:World} {ts:List Zi} (h:KidsLie B w c off ts) (h0:0<ts.length):w.cell? ⟨c,off,none⟩=some (.int .i64 (Zb2 ts)):=by
 obtain ⟨⟨i,k,d,e,f,g⟩,a⟩:∃ t,ts[0]?=some t:=⟨_,List.getElem?_eq_getElem h0⟩
 obtain ⟨_,_,_,_,⟨c0,_⟩,_⟩:=h.cells a
 cases ts with
 | nil=>simp at h0
 | cons t r =>
  simp at a;subst a
  simpa [Zb2,Zi.kind] using c0
end
