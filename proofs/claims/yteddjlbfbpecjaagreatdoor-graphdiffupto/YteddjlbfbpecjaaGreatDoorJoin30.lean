import Derived.Test.YteddjlbfbpecjaaGreatDoorJoin29
namespace Go.Proofs.YteddjlbfbpecjaaGreatDoor
set_option maxHeartbeats 4000000
set_option maxRecDepth 100000
set_option linter.all false
section
open Go.RowKit Go.Shelf
attribute [local go_sem] Oper.semAt_some
theorem Zpd (key:ByteArray) (T:Zi) (c0 c1 c2 c3 c4 c5:Value) (B:Nat) (w:World) (M:B<=w.heap.size) (L:Zaw B w (.agg #[c0,c1,c2,c3,c4,c5]) T) (E:Env w) (D:Zas T) :
  Calls Tryz.prog 132 #[.agg #[.string key,c0,c1,c2,c3,c4,c5]] w fun e w'=>e=.returned (.bool (Zcu T Zgp))/\Below w.heap.size w w':=by
 obtain ⟨k,x,n,s,ks,ts⟩:=T
 have HV:=Zb L
 simp only [Zaw] at L
 obtain ⟨ka,kc,la,lc,Y,_⟩:=L
 obtain ⟨rfl,rfl,rfl,rfl,rfl,rfl⟩:c0=.int .i64 k/\c1=.bool x/\c2=.int .i64 n/\c3=.string s/\c4=.slice ka ks.length kc/\c5=.slice la ts.length lc:=by
  simpa using Y
 have R:=Zb E
 have H:=Zb D
 clear Y E D
 go_enter Tryz.func132,Tryz.ntmps132
 go_upto_region 1 with fail
 generalize I:World.alloc _ _=W1
 have y:Hid (Below w.heap.size w W1):=by rw [<- I];exact (Below.refl _ _).alloc (Nat.le_refl _) _
 have z:=Zl w #[.string key,.int .i64 k,.bool x,.int .i64 n,.string s,.slice ka ks.length kc,.slice la ts.length lc] 79
 rw [I] at z
 clear I
 have r1:=z.cell 1 rfl
 have r2:=z.cell 2 rfl
 have r3:=z.cell 3 rfl
 have r4:=z.cell 4 rfl
 have r5:=z.cell 5 rfl
 have r6:=z.cell 6 rfl
 clear z
 have t:=Zb (Zk6 _ B _ W1 (Nat.le_trans M y.out.size) (HV.out.below (y.out.mono M)) (R.out.below y.out R.out.room) H.out)
 go_wp2_with fail
 refine t.out.mono ?_
 rintro e r ⟨rfl,d⟩
 have p:=Zb (Za y.out d)
 clear d r1 r2 r3 r4 r5 r6 t
 go_wp2_with fail
 go_ret
 exact ⟨rfl,p.out⟩
theorem Zs4 (a:Option Addr) (c:Nat) (f:Value) (w:World):Calls Tryz.prog 171 #[.slice a 0 c,f] w fun e w'=>e=.returned (.int .i64 (-1))/\w'=w:=by
 go_enter Tryz.func171,Tryz.ntmps171
 go_wp2_with fail
 go_loopw [8] (fun i wr=>i=.int .i64 0/\wr=w) (fun _ _=>0)
 case atStart=>exact ⟨rfl,rfl⟩
 case round =>
  obtain ⟨rfl,rfl⟩:=hrel
  go_wp2_with fail
  go_ret
  exact ⟨rfl,rfl⟩
theorem Zvh (key:ByteArray) (T:Zi) (C off A B:Nat) (w:World) (M:B<=w.heap.size) (a1:C<w.heap.size) (a2:1<=A) (F:A<=9223372036854775807) (S:Zda B w C off (key,T)) (E:Env w) (D:Zas T) (q:Zcu T Zgp=false) :
  Calls Tryz.prog 171 #[.slice (some ⟨C,off,none⟩) 1 A,.func (.func 132) #[] #[]] w fun e w'=>e=.returned (.int .i64 (-1))/\Below w.heap.size w w':=by
 obtain ⟨a0,a9,v0,v1,v2,v3,v4,v5,⟨c0,c1,c2,c3,c4,c5⟩,L⟩:=S
 simp only at a0 L
 have t:=Zb (Zpd key T v0 v1 v2 v3 v4 v5 B w M L E D)
 rw [q] at t
 clear E D q
 go_enter Tryz.func171,Tryz.ntmps171
 go_wp2_with fail
 go_loopw [8] (fun i wr=>(i=.int .i64 0/\wr=w)\/(i=.int .i64 1/\Below w.heap.size w wr)) (fun i _=>1 - (intOf i).toNat)
 case atStart=>exact .inl ⟨rfl,rfl⟩
 case round =>
  rcases hrel with ⟨rfl,U⟩ | ⟨rfl,O⟩
  ·rw [U]
   clear U
   go_wp2_with fail
   refine t.out.mono ?_
   rintro e r ⟨rfl,d⟩
   have p:=Zb d
   clear d a0 c0 c1 c2 c3 c4 c5
   go_wp2_with fail
   go_roundw
   case rel=>exact .inr ⟨by go_num,p.out⟩
   case measure=>simp [intOf]
  ·have a7:=Zb O
   clear O
   go_wp2_with fail
   go_ret
   exact ⟨rfl,a7.out⟩
theorem Zio (v f:Value) (w:World) (h:Calls Tryz.prog 171 #[v,f] w fun e w'=>e=.returned (.int .i64 (-1))/\Below w.heap.size w w') :
  Calls Tryz.prog 131 #[v,f] w fun e w'=>e=.returned v/\Below w.heap.size w w':=by
 have t:=Zb h
 clear h
 go_enter Tryz.func131,Tryz.ntmps131
 go_wp2_with fail
 refine t.out.mono ?_
 rintro e r ⟨rfl,d⟩
 have p:=Zb d
 clear d
 go_wp2_with fail
 go_ret
 exact ⟨rfl,p.out⟩
theorem Zlo (v f:Value) (n:Nat) (q:n<=1) (w:World):Calls Tryz.prog 208 #[v,.int .i64 0,.int .i64 n,f] w fun e w'=>e=.returned (.tuple #[])/\w'=w:=by
 have a5:¬ ((1:Int)<n):=by omega
 go_enter Tryz.func208,Tryz.ntmps208
 go_wp2_with fail
 go_loopw [8] (fun i wr=>i=.int .i64 1/\wr=w) (fun _ _=>0)
 case atStart=>exact ⟨rfl,rfl⟩
 case round =>
  obtain ⟨rfl,rfl⟩:=hrel
  go_wp2_with fail
  exact bodyPost_end (v:=.tuple #[]) (by simp [results,Tryz.results208,go_sem]) rfl ⟨rfl,rfl⟩
theorem Jcn (v f:Value) (n:Nat) (q:n<=1) (l:Int) (w:World):Calls Tryz.prog 172 #[v,.int .i64 0,.int .i64 n,.int .i64 l,f] w fun e w'=>e=.returned (.tuple #[])/\w'=w:=by
 have a5:(n:Int)<=12:=by omega
 have a8:∀ W:World,(binOp .sub 3 (.int .i64 (n:Int)) (.int .i64 0)).run Tryz.prog W=.ok (.int .i64 (n:Int)) W:=fun W=>by
  have U:IntKind.i64.wrap (n:Int)=n:=by rw [IntKind.wrap_i64];omega
  simp [binOp,go_sem,U]
 have t:=Zb (Zlo v f n q w)
 clear q
 go_enter Tryz.func172,Tryz.ntmps172
 go_wp2_with fail
 go_loopw [1,2] (fun i j wr=>i=.int .i64 0/\j=.int .i64 (n:Int)/\wr=w) (fun _ _ _=>0)
 case atStart=>exact ⟨rfl,rfl,rfl⟩
 case round =>
  obtain ⟨rfl,rfl,V⟩:=hrel
  rw [V]
  clear V
  go_wp2_with fail
  refine t.out.mono ?_
  rintro e r ⟨rfl,o⟩
  rw [o]
  clear o
  go_wp2_with fail
  exact bodyPost_ret (v:=.tuple #[]) (by simp [results,Tryz.results172,go_sem]) rfl ⟨rfl,rfl⟩
theorem Znh (a:Option Addr) (n c:Nat) (f:Value) (q:n<=1) (w:World):Calls Tryz.prog 133 #[.slice a n c,f] w fun e w'=>e=.returned (.tuple #[])/\w'=w:=by
 have HL:=Zb (Tryz.bits_Len (n:Int) w (by omega) (by omega))
 have t:=Zb (fun l=>Jcn (.slice a n c) f n q l w)
 generalize (Lib.bitLen (n:Int).toNat:Int)=l at HL
 have U:IntKind.u64.wrap (n:Int)=n:=by rw [IntKind.wrap_u64];omega
 clear q
 go_enter Tryz.func133,Tryz.ntmps133
 go_wp2_with fail
 refine HL.out.mono ?_
 rintro e r ⟨rfl,o⟩
 rw [o]
 clear o
 go_wp2_with fail
 refine (t.out _).mono ?_
 rintro e w3 ⟨rfl,Q⟩
 rw [Q]
 clear Q
 go_wp2_with fail
 exact bodyPost_end (v:=.tuple #[]) (by simp [results,Tryz.results133,go_sem]) rfl ⟨rfl,rfl⟩
theorem Zqt (n c:Nat) (w:World):Calls Tryz.prog 88 #[.slice none n c] w fun e w'=>e=.returned (.slice none 0 0)/\Below w.heap.size w w':=by
 have H1:=Zb (Zi9 (.func (.func 101) #[] #[]) n c w)
 have H2:=Zb (Zio (.slice none 0 0) (.func (.func 132) #[] #[]) w ((Zs4 none 0 _ w).mono fun e w' h=>⟨h.1,h.2▸Below.refl _ _⟩))
 have H3:=Zb (fun W=>Znh none 0 0 (.func (.func 134) #[] #[]) (by omega) W)
 go_enter Tryz.func88,Tryz.ntmps88
 go_wp2_with fail
 refine H1.out.mono ?_
 rintro e r ⟨rfl,o⟩
 rw [o]
 clear o
 go_wp2_with fail
 refine H2.out.mono ?_
 rintro e w3 ⟨rfl,m⟩
 have K:=Zb m
 clear m
 go_wp2_with fail
 refine (H3.out _).mono ?_
 rintro e w4 ⟨rfl,u⟩
 rw [u]
 clear u
 go_wp2_with fail
 go_ret
 exact ⟨rfl,K.out⟩
theorem Zzm (key:ByteArray) (T:Zi) (C off A B:Nat) (w:World) (M:B<=w.heap.size) (a1:C<B) (a2:1<=A) (F:A<=9223372036854775807) (S:Zda B w C off (key,T)) (ht:T.total<=2000000) (E:Env w) (D:Zas T) (q:Zcu T Zgp=false) :
  Calls Tryz.prog 88 #[.slice (some ⟨C,off,none⟩) 1 A] w fun e w'=>∃ d0 d1 d2 d3 d4 d5,e=.returned (.slice (some ⟨w.heap.size,0,none⟩) 1 1)/\Rec w' w.heap.size #[.string key,d0,d1,d2,d3,d4,d5] 79/\Za4 (w.heap.size+1) w'.heap.size w' (.agg #[d0,d1,d2,d3,d4,d5]) T/\Below w.heap.size w w':=by
 have N:=S.2.1
 have H1:=Zb (Zpr key T C off A B w M a1 a2 F S ht)
 have H3:=Zb (fun W=>Znh (some ⟨w.heap.size,0,none⟩) 1 1 (.func (.func 134) #[] #[]) (by omega) W)
 have R:=Zb E
 have H:=Zb D
 have HN:=Zb q
 have HK:=Zb N
 clear S ht E D q N
 go_enter Tryz.func88,Tryz.ntmps88
 go_wp2_with fail
 refine H1.out.mono ?_
 rintro e r ⟨d0,d1,d2,d3,d4,d5,rfl,g,G,d⟩
 have P:Hid (Zda r.heap.size r w.heap.size 0 (key,T)):=⟨g.cell 0 rfl,HK.out,d0,d1,d2,d3,d4,d5,⟨g.cell 1 rfl,g.cell 2 rfl,g.cell 3 rfl,g.cell 4 rfl,g.cell 5 rfl,g.cell 6 rfl⟩,G.lie⟩
 have H2:=Zb (Zio (.slice (some ⟨w.heap.size,0,none⟩) 1 1) (.func (.func 132) #[] #[]) r (Zvh key T w.heap.size 0 1 r.heap.size r (Nat.le_refl _) g.lt (by omega) (by omega) P.out (R.out.below d R.out.room) H.out HN.out))
 have X:=Zb g
 have a3:=Zb G
 have p:=Zb d
 clear g G d P
 go_wp2_with fail
 refine H2.out.mono ?_
 rintro e w3 ⟨rfl,m⟩
 have a4:=Zb (X.out.below m X.out.lt)
 have a6:Hid (Za4 (w.heap.size+1) w3.heap.size w3 (.agg #[d0,d1,d2,d3,d4,d5]) T):=Za4.mono (Nat.le_refl _) m.size (a3.out.block fun b h1 h2=>m.block b h2)
 have K:=Zb (Za p.out m)
 clear m
 go_wp2_with fail
 refine (H3.out _).mono ?_
 rintro e w4 ⟨rfl,u⟩
 rw [u]
 clear u
 go_wp2_with fail
 go_ret
 exact ⟨d0,d1,d2,d3,d4,d5,rfl,a4.out,a6.out,K.out⟩
end
section
open Go.RowKit Go.Shelf
attribute [local go_sem] Oper.semAt_some
def tK  : Zi:=.mk 2 false 1 ⟨#[]⟩ [] []
theorem Zxm (B:Nat) (w:World):Zaw B w (.agg #[.int .i64 2,.bool false,.int .i64 1,.string ⟨#[]⟩,.slice none 0 0,.slice none 0 0]) tK:=by
 unfold tK
 simp only [Zaw]
 exact ⟨none,0,none,0,rfl,⟨by unfold maxLen;decide,Nat.le_refl _,Nat.zero_le _,Nat.le_refl _,Nat.zero_le _⟩,Or.inl (by simp),Or.inl (by simp)⟩
theorem Zoc  : Zas tK:=⟨by decide,by decide⟩
theorem Jaz  : checkN tK=0:=by
 unfold checkN tK
 simp [Zi.pre,Zi.preL,Zw,Zcx,Zav,Lib.validD]
 rw [if_pos (by decide),if_neg (by decide)]
theorem Jdb  : Zcu tK Zgp=false:=by
 have h:(Zho tK Zgp==0)=false:=by
  unfold tK Zgp Zho
  have e:Zcs (Zb7 2) (Zb7 0)≠0:=by decide
  rw [if_neg e]
  simpa using e
 unfold Zcu
 rw [h,Bool.and_false]
theorem Ja0  : tK.total<=2000000:=by decide
theorem Ja1  : Zhg [⟨#[66]⟩,⟨#[65]⟩]=true:=by decide
theorem Jgi  : Ju (⟨#[84]⟩:ByteArray).data.toList=true:=by decide
theorem Jgj  : Ju (⟨#[107]⟩:ByteArray).data.toList=true:=by decide
theorem Jgk  : Zle (⟨#[107]⟩,tK)=true:=by
 have h1:Zg3 tK=true:=by decide
 unfold Zle
 simp only
 rw [Jgj,Jaz,h1]
 simp
theorem Ztq  : Zbx [(⟨#[107]⟩,tK)]=true:=by
 unfold Zbx Zbw
 simp [Jgk,Zia]
theorem Zmc  : Zbx []=true:=by
 unfold Zbx Zbw
 simp
theorem Ztr (B:Nat) (w:World):Jd B w (.slice none 0 0) []:=⟨none,0,rfl,Nat.le_refl _,by decide,.inl rfl⟩
theorem Zmd {w W:World} (b:Env w) (d:Below w.heap.size w W):Calls Tryz.prog 86 #[.slice none 0 0] W fun e w'=>e=.returned (.bool true)/\Below W.heap.size W w':=by
 have h:=Zha (.slice none 0 0) [] W.heap.size W (Nat.le_refl _) (Nat.le_trans b.room d.size) (Ztr _ _) (by simp) (b.below d b.room)
 rwa [Zmc] at h
theorem Zxn (W:World):Calls Tryz.prog 88 #[.slice none 0 0] W fun e w'=>∃ a n c,e=.returned (.slice a n c)/\(Value.slice a n c=.slice none 0 0)/\Below W.heap.size W w' :=
 (Zqt 0 0 W).mono fun e w' ⟨h1,h2⟩=>⟨none,0,0,h1,rfl,h2⟩
theorem Zrr {w W:World} (b:Env w) (d:Below w.heap.size w W):Calls Tryz.prog 90 #[.string ⟨#[84]⟩] W fun e w'=>e=.returned (.bool true)/\Below W.heap.size W w':=by
 have h:=Zev ⟨#[84]⟩ (by decide) W (b.below d b.room)
 rwa [Jgi] at h
end
section
open Go.RowKit Go.Shelf
attribute [local go_sem] Oper.semAt_some
set_option maxRecDepth 100000 in
set_option maxHeartbeats 2000000 in
theorem Zua (w:World) (K:Env w):Calls Tryz.prog 13 #[.agg #[.slice none 0 0,.slice none 0 0,.int .i64 0,.int .i64 0]] w fun e w'=>∃ p:GP,e=.returned (.tuple #[p.val,.int .i64 0])/\Below w.heap.size w w'/\p.Ok w.heap.size/\GS w' p 0 0 [] [] [] []:=by
 have a4:∀ W:World,(Instr.makeMap 72 none).run Tryz.prog W=.ok (.map (some W.heap.size)) (W.alloc (.map #[] 0)):=fun W=>rfl
 have v:∀ (B:Nat) (W:World) (a a2:Option Addr) (c c2:Nat),c<=9223372036854775807->c2<=9223372036854775807->Zr B W (.agg #[.slice a 0 c,.slice a2 0 c2,.int .i64 0,.int .i64 0]) ⟨[],[],0,0⟩:=fun B W a a2 c c2 h1 h2=>⟨a,c,a2,c2,rfl,⟨a,c,rfl,Nat.zero_le _,h1,.inl rfl⟩,⟨a2,c2,rfl,Nat.zero_le _,h2,.inl rfl⟩⟩
 have V:=Zb (fun W (hb:Below w.heap.size w W)=>Zdl ⟨[],[],0,0⟩ W.heap.size _ W (Nat.le_refl _) (K.below hb K.room) (v W.heap.size W none none 0 0 (by omega) (by omega)) ⟨by simp,by simp,by simp,by simp⟩ ⟨by simp,by simp⟩ ⟨by simp,by simp⟩ (by simp))
 rw [show Jo ⟨[],[],0,0⟩=true by decide] at V
 have HY:=Zb (fun W=>Zib ⟨[],[],0,0⟩ _ W.heap.size W (Nat.le_refl _) (v W.heap.size W none none 0 0 (by omega) (by omega)) (by simp) (by simp) (by simp) (by simp))
 have M:=Zb (fun W a a2 c c2 h1 h2=>Zjq ⟨[],[],0,0⟩ W.heap.size _ W (Nat.le_refl _) (v W.heap.size W a a2 c c2 h1 h2) (by simp) (by simp) (by simp) (by simp))
 clear K v
 go_enter Tryz.func13,Tryz.ntmps13
 go_upto_region 1 with fail
 generalize k:World.alloc _ _=W1
 have t:Hid (Below w.heap.size w W1):=by rw [<- k];exact (Below.refl _ _).alloc (Nat.le_refl _) _
 have d:Hid (Rec W1 w.heap.size #[.slice none 0 0,.slice none 0 0,.int .i64 0,.int .i64 0] 25):=by rw [<- k];exact Zl _ _ _
 have s:w.heap.size<W1.heap.size:=by rw [<- k];simp
 clear k
 have D:=d.out.cell 0 rfl
 have a1:=d.out.cell 1 rfl
 have a2:=d.out.cell 2 rfl
 have a3:=d.out.cell 3 rfl
 go_wp2_with fail
 refine (V.out W1 t.out).mono ?_
 rintro e U ⟨rfl,j⟩
 have G:=Zb (Za t.out j)
 have b:=Zb (d.out.below j s)
 have r:w.heap.size<U.heap.size:=Nat.lt_of_lt_of_le s j.size
 clear j D a1 a2 a3
 have D:=b.out.cell 0 rfl
 have a1:=b.out.cell 1 rfl
 have a2:=b.out.cell 2 rfl
 have a3:=b.out.cell 3 rfl
 go_wp2_with fail
 refine (HY.out U).mono ?_
 rintro e n ⟨v3,rfl,⟨nv,rv,rfl,⟨xa,xc,rfl,_,Q,_⟩,⟨ya,X,rfl,_,y,_⟩⟩,g⟩
 have N:=Zb (Za G.out g)
 have H:=Zb (b.out.below g r)
 have I:w.heap.size<n.heap.size:=Nat.lt_of_lt_of_le r g.size
 clear g D a1 a2 a3
 go_wp2_with fail
 refine (M.out n xa ya xc X Q y).mono ?_
 rintro e i ⟨rfl,m,N4,R4,q,l,u,o⟩
 have L:N4=[]:=List.eq_nil_of_length_eq_zero u.1
 have E:R4=[]:=List.eq_nil_of_length_eq_zero o.1
 subst L E
 have P:=Zb (Za N.out m)
 have O:=Zb (H.out.below m I)
 have F:=Zb q
 have z:=Zb l
 have Y:n.heap.size+4<=i.heap.size:=l.lt
 clear m q l u o
 go_upto_region 5 with fail
 generalize f:World.alloc _ _=W5
 have S:Hid (Below w.heap.size w W5):=by rw [<- f];exact ((P.out.alloc (by omega) _).alloc (by simp;omega) _).alloc (by simp;omega) _
 have C:Hid (Rec W5 w.heap.size #[.slice none 0 0,.slice none 0 0,.int .i64 0,.int .i64 0] 25):=by rw [<- f];exact ((O.out.alloc _).alloc _).alloc _
 have R:Hid (GS W5 ⟨i.heap.size+1+1,n.heap.size+2,n.heap.size+3,i.heap.size,i.heap.size+1⟩ 0 0 [] [] [] []):=by
  rw [<- f]
  refine ⟨?_,?_,?_,?_,?_⟩
  ·have h:=Zl ((i.alloc (.map #[] 0)).alloc (.map #[] 0)) #[.map (some (n.heap.size+2)),.map (some (n.heap.size+3)),.int .i64 0,.int .i64 0,.map (some i.heap.size),.map (some (i.heap.size+1))] 74
   rw [World.size_alloc,World.size_alloc] at h
   exact h
  ·exact F.out.block (by rw [Below.heap_alloc _ _ _ (by simp;omega),Below.heap_alloc _ _ _ (by simp;omega),Below.heap_alloc _ _ _ (by omega)])
  ·exact z.out.block (by rw [Below.heap_alloc _ _ _ (by simp;omega),Below.heap_alloc _ _ _ (by simp;omega),Below.heap_alloc _ _ _ (by omega)])
  ·exact (Zjr i).block (by rw [Below.heap_alloc _ _ _ (by simp only [World.size_alloc];omega),Below.heap_alloc _ _ _ (by simp only [World.size_alloc];omega)])
  ·have h:=Zjr (i.alloc (.map #[] 0))
   rw [World.size_alloc] at h
   exact h.block (by rw [Below.heap_alloc _ _ _ (by simp only [World.size_alloc];omega)])
 clear f
 have a1:=C.out.cell 1 rfl
 go_wp2_with fail
 go_loopw [23] (fun x wr=>x=.int .i64 0/\wr=W5) (fun _ _=>0)
 case atStart=>exact ⟨rfl,rfl⟩
 case round =>
  obtain ⟨rfl,T⟩:=hrel
  rw [T]
  clear T
  go_wp2_with fail
  go_ret2
  exact ⟨_,rfl,S.out,⟨by simp only;omega,by simp only;omega,by simp only;omega,by simp only;omega,by simp only;omega,by simp only;omega,by simp only;omega,by simp only;omega,by simp only;omega,by simp only;omega,by simp only;omega,by simp only;omega,by simp only;omega,by simp only;omega,by simp only;omega⟩,R.out⟩
end
