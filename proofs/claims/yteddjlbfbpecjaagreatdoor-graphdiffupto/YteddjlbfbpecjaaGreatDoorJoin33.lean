import Derived.Test.YteddjlbfbpecjaaGreatDoorJoin32
namespace Go.Proofs.YteddjlbfbpecjaaGreatDoor
set_option maxHeartbeats 8000000
set_option maxRecDepth 100000
set_option linter.all false
section
open Go.RowKit Go.Shelf Go.WideShapes
noncomputable def RSE  : Array Oper:=Zy Tryz.f107 6
def LSE  : List Sig:=[⟨16,.move (.tmp 0),44,none⟩,⟨17,.move (.tmp 5),3,none⟩,⟨18,.indexAddr 44 (.tmp 16) (.tmp 17),0,none⟩,⟨19,.load 9 (.tmp 18),9,none⟩,⟨20,.move (.tmp 1),44,none⟩,⟨21,.move (.tmp 5),3,none⟩,⟨22,.indexAddr 44 (.tmp 20) (.tmp 21),0,none⟩,⟨23,.load 9 (.tmp 22),9,none⟩,⟨24,.binOp .neq 9 (.tmp 19) (.tmp 23) 9,4,none⟩]
theorem Jkc  : Jh RSE=LSE.map some:=by kernel_rfl
def ASE  : List (List Nat):=[[],[],[0,1],[2],[],[],[4,5],[6],[3,7]]
structure Zrc (D off kl kc m g A t j:Nat) (x y:ByteArray) (c:Act):Prop where
 t0:c.eval (.tmp 0)=.slice (some ⟨D,off,none⟩) kl kc
 t1:c.eval (.tmp 1)=.slice (some ⟨m,g,none⟩) A t
 t5:c.eval (.tmp 5)=.int .i64 (j:Int)
def Jkd (D off kl kc m g A t j:Nat) (x y:ByteArray):List Value:=[.slice (some ⟨D,off,none⟩) kl kc,.int .i64 (j:Int),.pointer (some ⟨D,off+j,none⟩),.string x,.slice (some ⟨m,g,none⟩) A t,.int .i64 (j:Int),.pointer (some ⟨m,g+j,none⟩),.string y,.bool true]
structure Zrd (D off kl kc m g A t j:Nat) (x y:ByteArray) (w:World):Prop where
 lt:j<kl
 le:kl<=9223372036854775807
 cx:w.cell? ⟨D,off+j,none⟩=some (.string x)
 lt2:j<A
 le2:A<=9223372036854775807
 cy:w.cell? ⟨m,g+j,none⟩=some (.string y)
 a1:(!(x.toList==y.toList))=true
theorem Zwc (D off kl kc m g A t j:Nat) (x y:ByteArray) (Q:Exit->Act->World->Prop) (base:Act) (w0:World) (d7:base.tmps.size=26) (C:Zrc D off kl kc m g A t j x y base)
  (X:∀ w,Below w0.heap.size w0 w->Zrd D off kl kc m g A t j x y w) (hQ:∀ c w,Zaf RSE base c->Below w0.heap.size w0 w->c.eval (.tmp 24)=.bool true->Q .normal c w):(Code.region 6 RSE true).wp Tryz.prog Q base w0:=by
 refine Zn (B:=Zrc D off kl kc m g A t j x y) (T:=Zrd D off kl kc m g A t j x y) (n:=9) (k:=8) LSE ASE (Jkd D off kl kc m g A t j x y) Jkc rfl (by kernel_rfl) (by kernel_rfl) (by kernel_rfl) (by rw [d7];kernel_rfl) (fun c hS=>⟨(Zc hS (by kernel_rfl)).trans C.t0,(Zc hS (by kernel_rfl)).trans C.t1,(Zc hS (by kernel_rfl)).trans C.t5⟩) X ?_ (by decide) rfl rfl hQ
 clear d7 C X hQ
 iterate 9 (refine Zd ?_ (by
  intro c w C X hEq
  obtain ⟨t0,t1,t5⟩:=C
  obtain ⟨lt,le,cx,lt2,le2,cy,a1⟩:=X
  have ec:=evc c
  have ef:=evf c
  dsimp only [ASE,LSE,Jkd,nth,Zbm,Za2,Jc] at hEq |-
  first
  | exact ⟨by simp only [hEq],.inr ⟨by first | exact .inl rfl | exact .inr rfl,rfl⟩⟩
  | ((try refine ⟨by simp only [hEq],.inl ⟨rfl,?_⟩⟩);first | (refine .inl fun pos af=>?_;(dsimp only [Sig.oper];generalize c.eval=ρ at *;go_simp;done)) | (refine .inl fun pos af=>?_;dsimp only [Sig.oper];generalize c.eval=ρ at *;go_simp;simp only [decide_eq_true_eq,decide_eq_false_iff_not] at *;omega))))
 exact Zf
def Jke (D off kl kc m g A t j:Nat) (x y:ByteArray):List Value:=[.slice (some ⟨D,off,none⟩) kl kc,.int .i64 (j:Int),.pointer (some ⟨D,off+j,none⟩),.string x,.slice (some ⟨m,g,none⟩) A t,.int .i64 (j:Int),.pointer (some ⟨m,g+j,none⟩),.string y,.bool false]
structure Zre (D off kl kc m g A t j:Nat) (x y:ByteArray) (w:World):Prop where
 lt:j<kl
 le:kl<=9223372036854775807
 cx:w.cell? ⟨D,off+j,none⟩=some (.string x)
 lt2:j<A
 le2:A<=9223372036854775807
 cy:w.cell? ⟨m,g+j,none⟩=some (.string y)
 a1:(!(x.toList==y.toList))=false
theorem Zwd (D off kl kc m g A t j:Nat) (x y:ByteArray) (Q:Exit->Act->World->Prop) (base:Act) (w0:World) (d7:base.tmps.size=26) (C:Zrc D off kl kc m g A t j x y base)
  (X:∀ w,Below w0.heap.size w0 w->Zre D off kl kc m g A t j x y w) (hQ:∀ c w,Zaf RSE base c->Below w0.heap.size w0 w->c.eval (.tmp 24)=.bool false->Q .normal c w):(Code.region 6 RSE true).wp Tryz.prog Q base w0:=by
 refine Zn (B:=Zrc D off kl kc m g A t j x y) (T:=Zre D off kl kc m g A t j x y) (n:=9) (k:=8) LSE ASE (Jke D off kl kc m g A t j x y) Jkc rfl (by kernel_rfl) (by kernel_rfl) (by kernel_rfl) (by rw [d7];kernel_rfl) (fun c hS=>⟨(Zc hS (by kernel_rfl)).trans C.t0,(Zc hS (by kernel_rfl)).trans C.t1,(Zc hS (by kernel_rfl)).trans C.t5⟩) X ?_ (by decide) rfl rfl hQ
 clear d7 C X hQ
 iterate 9 (refine Zd ?_ (by
  intro c w C X hEq
  obtain ⟨t0,t1,t5⟩:=C
  obtain ⟨lt,le,cx,lt2,le2,cy,a1⟩:=X
  have ec:=evc c
  have ef:=evf c
  dsimp only [ASE,LSE,Jke,nth,Zbm,Za2,Jc] at hEq |-
  first
  | exact ⟨by simp only [hEq],.inr ⟨by first | exact .inl rfl | exact .inr rfl,rfl⟩⟩
  | ((try refine ⟨by simp only [hEq],.inl ⟨rfl,?_⟩⟩);first | (refine .inl fun pos af=>?_;(dsimp only [Sig.oper];generalize c.eval=ρ at *;go_simp;done)) | (refine .inl fun pos af=>?_;dsimp only [Sig.oper];generalize c.eval=ρ at *;go_simp;simp only [decide_eq_true_eq,decide_eq_false_iff_not] at *;omega))))
 exact Zf
attribute [local go_sem] Oper.semAt_some
def Zbe  : List (ByteArray × Zi)->List (ByteArray × Zi)->Bool
 | [],_=>true
 | _::_,[]=>true
 | p::r,q::r'=>((p.1.toList==q.1.toList)&&Zcu p.2 q.2)&&Zbe r r'
def Zbg (a b:List (ByteArray × Zi)):Bool:=!((a.length:Int) != (b.length:Int))&&Zbe a b
theorem Znq {ks u:List (ByteArray × Zi)} {j:Nat} {x y:ByteArray × Zi} (h:ks[j]?=some x) (h':u[j]?=some y):Zbe (ks.drop j) (u.drop j)=(((x.1.toList==y.1.toList)&&Zcu x.2 y.2)&&Zbe (ks.drop (j+1)) (u.drop (j+1))):=by
 obtain ⟨hj,hx⟩:=List.getElem?_eq_some_iff.1 h
 obtain ⟨j3,j5⟩:=List.getElem?_eq_some_iff.1 h'
 rw [List.drop_eq_getElem_cons hj,hx,List.drop_eq_getElem_cons j3,j5,Zbe]
def Zbf (a b:Zo):Bool:=(a.id==b.id)&&(Zac a.labels b.labels&&Zbg a.props b.props)
def Zby (a b:Jg):Bool:=(a.id==b.id)&&((a.fr==b.fr)&&((a.tt==b.tt)&&((a.type.toList==b.type.toList)&&Zbg a.props b.props)))
theorem Ztf (ks u:List ByteArray) (B:Nat) (ka a8:Option Addr) (kc t:Nat) (w:World) (R:B<=w.heap.size) (hk:Zab B w ka ks) (a7:Zab B w a8 u) (h1:ks.length<=kc) (h2:kc<=9223372036854775807) (g1:u.length<=t) (g2:t<=9223372036854775807) :
  Calls Tryz.prog 107 #[.slice ka ks.length kc,.slice a8 u.length t] w fun e w'=>e=.returned (.bool (Zac ks u))/\Below w.heap.size w w':=by
 have c8:=Zb (And.intro hk a7)
 obtain ⟨res,l⟩:∃ r,Zac ks u=r:=⟨_,rfl⟩
 rw [l]
 unfold Zac at l
 have K:=Zb l
 obtain ⟨n,hn⟩:∃ n,ks.length=n:=⟨_,rfl⟩
 obtain ⟨n2,L⟩:∃ n,u.length=n:=⟨_,rfl⟩
 have b7:=Zb hn
 have b9:=Zb L
 rw [hn] at h1
 rw [L] at g1
 rw [hn,L] at K
 rw [hn,L]
 clear hk a7 l hn L
 go_enter Tryz.func107,Tryz.ntmps107
 by_cases b5:((n:Int) != (n2:Int))=true
 ·have G:Hid (res=false):=by
   show _=_
   rw [<- K.out,b5];rfl
  go_wp2_with fail
  go_ret
  exact ⟨by rw [G.out];rfl,Below.refl _ _⟩
 ·have z5:((n:Int) != (n2:Int))=false:=by simpa using b5
  clear b5
  have b0:Hid (Za9 ks u=res):=by
   show _=_
   rw [<- K.out,z5];rfl
  have f1:Hid (n=n2):=by
   have a:=z5
   simp at a
   show _=_
   omega
  go_wp2_with fail
  clear K z5
  obtain rfl:=f1.out
  clear f1
  go_loopw [13] (fun i wr=>∃ j:Nat,j<=n/\i=.int .i64 j/\Below w.heap.size w wr/\Za9 (ks.drop j) (u.drop j)=res) (fun i _=>n - (intOf i).toNat)
  case atStart=>exact ⟨0,Nat.zero_le _,rfl,Below.refl _ _,b0.out⟩
  case round =>
   obtain ⟨j,hj,rfl,U,e8⟩:=hrel
   have N:=Zb U
   have f3:=Zb e8
   have j9:w.heap.size<=wr.heap.size:=U.size
   clear U e8
   by_cases hlt:j<n
   ·have f5:(j:Int)<n:=by omega
    obtain ⟨xk,hx⟩:∃ q,ks[j]?=some q:=⟨_,List.getElem?_eq_getElem (by have:=b7.out;omega)⟩
    obtain ⟨yk,hy⟩:∃ q,u[j]?=some q:=⟨_,List.getElem?_eq_getElem (by have:=b9.out;omega)⟩
    obtain ⟨D,off,rfl,i6,hc⟩:=(c8.out.1.below (N.out.mono R)).resolve_left (by intro e;rw [e] at hx;simp at hx)
    obtain ⟨m,g,rfl,g3,f4⟩:=(c8.out.2.below (N.out.mono R)).resolve_left (by intro e;rw [e] at hy;simp at hy)
    have cx:=(hc j (by have:=b7.out;omega)).1
    have cy:=(f4 j (by have:=b9.out;omega)).1
    rw [List.getD_eq_getElem?_getD,hx] at cx
    rw [List.getD_eq_getElem?_getD,hy] at cy
    simp only [Option.getD_some] at cx cy
    have g7:D<wr.heap.size:=by omega
    have F:m<wr.heap.size:=by omega
    have HE:Hid (res=((xk.toList==yk.toList)&&Za9 (ks.drop (j+1)) (u.drop (j+1)))):=by
     show _=_
     rw [<- f3.out,Zje hx hy]
    clear hx hy hc f4
    go_upto_region 6 with fail
    show (Code.region 6 RSE true).wp _ _ _ _
    obtain ⟨b,C⟩:∃ b,(xk.toList==yk.toList)=b:=⟨_,rfl⟩
    cases b with
    | false =>
     have h3:Hid ((!(xk.toList==yk.toList))=true):=by
      show _=_
      rw [C];rfl
     have h5:=Zb C
     clear C
     refine Zwc D off n kc m g n t j xk yk _ _ _ rfl ⟨rfl,rfl,rfl⟩ ?_ ?_
     ·intro W X
      exact ⟨hlt,by omega,(X.cell (p:=⟨D,off+j,none⟩) g7).trans cx,hlt,by omega,(X.cell (p:=⟨m,g+j,none⟩) F).trans cy,h3.out⟩
     intro c W3 hS d8 d9
     rw [Zj hS [16,17,18,19,20,21,22,23,24] (by kernel_rfl)]
     simp only [List.foldl_cons,List.foldl_nil,List.setIfInBounds_toArray,List.set_cons_succ,List.set_cons_zero,show Zbd c 24=_ from d9]
     clear d9 hS
     have I:=Zb (Za N.out d8)
     clear d8
     have G:Hid (res=false):=by
      show _=_
      rw [HE.out,h5.out];rfl
     go_wp2_with fail
     go_ret
     exact ⟨by rw [G.out];rfl,I.out⟩
    | true =>
     have h3:Hid ((!(xk.toList==yk.toList))=false):=by
      show _=_
      rw [C];rfl
     have h5:=Zb C
     clear C
     refine Zwd D off n kc m g n t j xk yk _ _ _ rfl ⟨rfl,rfl,rfl⟩ ?_ ?_
     ·intro W X
      exact ⟨hlt,by omega,(X.cell (p:=⟨D,off+j,none⟩) g7).trans cx,hlt,by omega,(X.cell (p:=⟨m,g+j,none⟩) F).trans cy,h3.out⟩
     intro c W3 hS d8 d9
     rw [Zj hS [16,17,18,19,20,21,22,23,24] (by kernel_rfl)]
     simp only [List.foldl_cons,List.foldl_nil,List.setIfInBounds_toArray,List.set_cons_succ,List.set_cons_zero,show Zbd c 24=_ from d9]
     clear d9 hS
     have I:=Zb (Za N.out d8)
     clear d8
     have b9:Hid (Za9 (ks.drop (j+1)) (u.drop (j+1))=res):=by
      show _=_
      rw [HE.out,h5.out];rfl
     go_wp2_with fail
     go_roundw
     case rel=>exact ⟨j+1,by omega,by go_num,I.out,b9.out⟩
     case measure=>simp [intOf];omega
   ·have G:Hid (res=true):=by
     show _=_
     rw [<- f3.out,List.drop_of_length_le (by have:=b7.out;omega)];rfl
    have f5:¬ (j:Int)<n:=by omega
    go_wp2_with fail
    go_ret
    exact ⟨by rw [G.out];rfl,N.out⟩
theorem Zet {B:Nat} {w:World} {v0 v1 v2 v3 v4 v5:Value} {T:Zi} (h:Zaw B w (.agg #[v0,v1,v2,v3,v4,v5]) T):∃ i0 b1 i2 s3 k4 b8 a9 l5 c7 b6,v0=.int .i64 i0/\v1=.bool b1/\v2=.int .i64 i2/\v3=.string s3/\v4=.slice k4 b8 a9/\v5=.slice l5 c7 b6:=by
 obtain ⟨a,b,c,d,e,f⟩:=T
 simp only [Zaw] at h
 obtain ⟨ka,kc,k0,k1,e9,_⟩:=h
 injection e9 with e9
 have e9:=congrArg Array.toList e9
 simp only [List.cons.injEq,and_true] at e9
 obtain ⟨e0,e1,e2,e3,e4,e5⟩:=e9
 exact ⟨_,_,_,_,_,_,_,_,_,_,e0,e1,e2,e3,e4,e5⟩
def Zeu (B:Nat) (w:World) (v:Value) (q:ByteArray × Zi):Prop:=∃ v0 v1 v2 v3 v4 v5,v=.agg #[.string q.1,v0,v1,v2,v3,v4,v5]/\Zaw B w (.agg #[v0,v1,v2,v3,v4,v5]) q.2
theorem Zeu.below {B:Nat} {w w':World} (h:Below B w w') {v:Value} {q:ByteArray × Zi} (hp:Zeu B w v q):Zeu B w' v q:=by
 obtain ⟨v0,v1,v2,v3,v4,v5,e,hl⟩:=hp
 exact ⟨v0,v1,v2,v3,v4,v5,e,hl.below h⟩
theorem Znr (p q:ByteArray × Zi) (B:Nat) (v v':Value) (w:World) (R:B<=w.heap.size) (hT:Zhx w) (hv:Zeu B w v p) (f0:Zeu B w v' q) (hm:Zas p.2) (M:Zas q.2) :
  Calls Tryz.prog 109 #[v,v'] w fun e w'=>e=.returned (.bool ((p.1.toList==q.1.toList)&&Zcu p.2 q.2))/\Below w.heap.size w w':=by
 obtain ⟨v0,v1,v2,v3,v4,v5,rfl,hl⟩:=hv
 obtain ⟨u0,u1,u2,u3,u4,u5,rfl,g8⟩:=f0
 have HS:=Zb (fun W (C:Below w.heap.size w W)=>Zrb p.2 q.2 B _ _ W (Nat.le_trans R C.size) (hl.below (C.mono R)) (g8.below (C.mono R)) (hT.below C) hm M)
 obtain ⟨i0,b1,i2,s3,k4,b8,a9,l5,c7,b6,rfl,rfl,rfl,rfl,rfl,rfl⟩:=Zet hl
 obtain ⟨j0,d1,j2,t3,m4,f7,f6,n5,g0,f8,rfl,rfl,rfl,rfl,rfl,rfl⟩:=Zet g8
 obtain ⟨res,l⟩:∃ r,((p.1.toList==q.1.toList)&&Zcu p.2 q.2)=r:=⟨_,rfl⟩
 rw [l]
 obtain ⟨x,T⟩:=p
 obtain ⟨y,T'⟩:=q
 simp only at HS l |-
 obtain ⟨bs,h4⟩:∃ b,Zcu T T'=b:=⟨_,rfl⟩
 obtain ⟨bk,j4⟩:∃ b,(x.toList==y.toList)=b:=⟨_,rfl⟩
 rw [h4] at HS
 rw [h4,j4] at l
 have K:=Zb l
 clear hl g8 h4 hT hm M l
 go_enter Tryz.func109,Tryz.ntmps109
 go_upto_region 1 with fail
 generalize H:World.alloc _ _=W1
 have s:=(Zl w #[.string x,.int .i64 i0,.bool b1,.int .i64 i2,.string s3,.slice k4 b8 a9,.slice l5 c7 b6] 79).alloc (.cells #[.string y,.int .i64 j0,.bool d1,.int .i64 j2,.string t3,.slice m4 f7 f6,.slice n5 g0 f8] 79)
 have o:=Zl (w.alloc (.cells #[.string x,.int .i64 i0,.bool b1,.int .i64 i2,.string s3,.slice k4 b8 a9,.slice l5 c7 b6] 79)) #[.string y,.int .i64 j0,.bool d1,.int .i64 j2,.string t3,.slice m4 f7 f6,.slice n5 g0 f8] 79
 rw [H] at s o
 rw [World.size_alloc] at o
 have z:Hid (Below w.heap.size w W1):=by rw [<- H];exact ((Below.refl _ _).alloc (Nat.le_refl _) _).alloc (by simp) _
 have f2:=Zb (HS.out W1 z.out)
 clear H
 have a0:=s.cell 0 rfl
 have c0:=o.cell 0 rfl
 have a1:=s.cell 1 rfl
 have c1:=o.cell 1 rfl
 have a2:=s.cell 2 rfl
 have c2:=o.cell 2 rfl
 have a3:=s.cell 3 rfl
 have c3:=o.cell 3 rfl
 have a4:=s.cell 4 rfl
 have c4:=o.cell 4 rfl
 have a5:=s.cell 5 rfl
 have c5:=o.cell 5 rfl
 have a6:=s.cell 6 rfl
 have c6:=o.cell 6 rfl
 clear s o HS
 cases bk with
 | false =>
  have G:Hid (res=false):=by rw [<- K.out];rfl
  go_wp2_with fail
  go_ret
  exact ⟨by rw [G.out];rfl,z.out⟩
 | true =>
  have G:Hid (res=bs):=by rw [<- K.out];rfl
  go_wp2_with fail
  refine f2.out.mono ?_
  rintro e w3 ⟨rfl,E⟩
  have I:=Zb (Za z.out E)
  clear E
  go_wp2_with fail
  go_ret
  exact ⟨by rw [G.out];rfl,I.out⟩
theorem Zda.reg {B:Nat} {w:World} {D off:Nat} {q:ByteArray × Zi} (h:Zda B w D off q):∃ v0 v1 v2 v3 v4 v5,(w.cell? ⟨D,off,none⟩=some (.string q.1)/\w.cell? ⟨D,off+1,none⟩=some v0/\w.cell? ⟨D,off+2,none⟩=some v1/\w.cell? ⟨D,off+3,none⟩=some v2/\w.cell? ⟨D,off+4,none⟩=some v3/\w.cell? ⟨D,off+5,none⟩=some v4/\w.cell? ⟨D,off+6,none⟩=some v5)/\Zeu B w (.agg #[.string q.1,v0,v1,v2,v3,v4,v5]) q:=by
 obtain ⟨h0,h1,v0,v1,v2,v3,v4,v5,⟨c0,c1,c2,c3,c4,c5⟩,hv⟩:=h
 exact ⟨v0,v1,v2,v3,v4,v5,⟨h0,c0,c1,c2,c3,c4,c5⟩,v0,v1,v2,v3,v4,v5,rfl,hv⟩
theorem Ziw (ks u:List (ByteArray × Zi)) (B:Nat) (ka a8:Option Addr) (kc t:Nat) (w:World) (R:B<=w.heap.size) (hT:Zhx w) (hk:Jd B w (.slice ka ks.length kc) ks) (a7:Jd B w (.slice a8 u.length t) u) (hm:∀ q ∈ ks,Zas q.2) (M:∀ q ∈ u,Zas q.2) :
  Calls Tryz.prog 108 #[.slice ka ks.length kc,.slice a8 u.length t,.func (.func 109) #[] #[]] w fun e w'=>e=.returned (.bool (Zbg ks u))/\Below w.heap.size w w':=by
 obtain ⟨a',c',e1,h1,h2,i1⟩:=hk
 obtain ⟨rfl,rfl⟩:ka=a'/\kc=c':=by injection e1 with e1 _ e2;exact ⟨e1,e2⟩
 obtain ⟨a',c',e2,g1,g2,i3⟩:=a7
 obtain ⟨rfl,rfl⟩:a8=a'/\t=c':=by injection e2 with e1 _ e2;exact ⟨e1,e2⟩
 have c8:=Zb (And.intro i1 i3)
 have j7:=Zb hT
 have h9:=Zb (And.intro hm M)
 have hk:=trivial
 have a7:=trivial
 clear i1 i3 e1 e2 hT hm M
 obtain ⟨res,l⟩:∃ r,Zbg ks u=r:=⟨_,rfl⟩
 rw [l]
 unfold Zbg at l
 have K:=Zb l
 obtain ⟨n,hn⟩:∃ n,ks.length=n:=⟨_,rfl⟩
 obtain ⟨n2,L⟩:∃ n,u.length=n:=⟨_,rfl⟩
 have b7:=Zb hn
 have b9:=Zb L
 rw [hn] at h1
 rw [L] at g1
 rw [hn,L] at K
 rw [hn,L]
 clear hk a7 l hn L
 go_enter Tryz.func108,Tryz.ntmps108
 by_cases b5:((n:Int) != (n2:Int))=true
 ·have G:Hid (res=false):=by
   show _=_
   rw [<- K.out,b5];rfl
  go_wp2_with fail
  go_ret
  exact ⟨by rw [G.out];rfl,Below.refl _ _⟩
 ·have z5:((n:Int) != (n2:Int))=false:=by simpa using b5
  clear b5
  have b0:Hid (Zbe ks u=res):=by
   show _=_
   rw [<- K.out,z5];rfl
  have f1:Hid (n=n2):=by
   have a:=z5
   simp at a
   show _=_
   omega
  go_wp2_with fail
  clear K z5
  obtain rfl:=f1.out
  clear f1
  go_loopw [17] (fun i wr=>∃ j:Nat,j<=n/\i=.int .i64 j/\Below w.heap.size w wr/\Zbe (ks.drop j) (u.drop j)=res) (fun i _=>n - (intOf i).toNat)
  case atStart=>exact ⟨0,Nat.zero_le _,rfl,Below.refl _ _,b0.out⟩
  case round =>
   obtain ⟨j,hj,rfl,U,e8⟩:=hrel
   have N:=Zb U
   have f3:=Zb e8
   have j9:w.heap.size<=wr.heap.size:=U.size
   clear U e8
   by_cases hlt:j<n
   ·have f5:(j:Int)<n:=by omega
    obtain ⟨xk,hx⟩:∃ q,ks[j]?=some q:=⟨_,List.getElem?_eq_getElem (by have:=b7.out;omega)⟩
    obtain ⟨yk,hy⟩:∃ q,u[j]?=some q:=⟨_,List.getElem?_eq_getElem (by have:=b9.out;omega)⟩
    obtain ⟨D,off,rfl,i6,hc⟩:=c8.out.1.resolve_left (by intro e;rw [e] at hx;simp at hx)
    obtain ⟨m,g,rfl,g3,f4⟩:=c8.out.2.resolve_left (by intro e;rw [e] at hy;simp at hy)
    obtain ⟨v0,v1,v2,v3,v4,v5,⟨c0,c1,c2,c3,c4,c5,c6⟩,hv⟩:=((hc j _ hx).below (N.out.mono R) i6).reg
    obtain ⟨u0,u1,u2,u3,u4,u5,⟨d0,d1,d2,d3,d4,d5,d6⟩,hu⟩:=((f4 j _ hy).below (N.out.mono R) g3).reg
    have g7:D<wr.heap.size:=by omega
    have F:m<wr.heap.size:=by omega
    have f9:=Zb (fun W (C:Below wr.heap.size wr W)=>Znr xk yk B _ _ W (by have:=C.size;omega) (j7.out.below (Za N.out C)) (hv.below (C.mono (by omega))) (hu.below (C.mono (by omega))) (h9.out.1 _ (List.mem_of_getElem? hx)) (h9.out.2 _ (List.mem_of_getElem? hy)))
    obtain ⟨ba,g5⟩:∃ b,((xk.1.toList==yk.1.toList)&&Zcu xk.2 yk.2)=b:=⟨_,rfl⟩
    rw [g5] at f9
    have HE:Hid (res=(ba&&Zbe (ks.drop (j+1)) (u.drop (j+1)))):=by
     show _=_
     rw [<- f3.out,Znq hx hy,g5]
    have h8:Zaw B wr (.agg #[v0,v1,v2,v3,v4,v5]) xk.2:=by
     obtain ⟨_,_,_,_,_,_,e,h⟩:=hv
     injection e with e
     have e:=congrArg Array.toList e
     simp only [List.cons.injEq,and_true] at e
     obtain ⟨_,rfl,rfl,rfl,rfl,rfl,rfl⟩:=e
     exact h
    have i4:Zaw B wr (.agg #[u0,u1,u2,u3,u4,u5]) yk.2:=by
     obtain ⟨_,_,_,_,_,_,e,h⟩:=hu
     injection e with e
     have e:=congrArg Array.toList e
     simp only [List.cons.injEq,and_true] at e
     obtain ⟨_,rfl,rfl,rfl,rfl,rfl,rfl⟩:=e
     exact h
    obtain ⟨i0,b1,i2,s3,k4,b8,a9,l5,c7,b6,rfl,rfl,rfl,rfl,rfl,rfl⟩:=Zet h8
    obtain ⟨j0,i9,j2,t3,m4,f7,f6,n5,g0,f8,rfl,rfl,rfl,rfl,rfl,rfl⟩:=Zet i4
    clear h8 i4
    obtain ⟨xk,T⟩:=xk
    obtain ⟨yk,T'⟩:=yk
    simp only at c0 d0 f9
    clear hx hy hc f4 hv hu g5
    go_upto_region 6 with fail
    generalize H:World.alloc _ _=W1
    have s:=Zl wr #[.string xk,.int .i64 i0,.bool b1,.int .i64 i2,.string s3,.slice k4 b8 a9,.slice l5 c7 b6] 79
    rw [H] at s
    have e7:=Zb s
    have z:Hid (Below wr.heap.size wr W1):=by rw [<- H];exact (Below.refl _ _).alloc (Nat.le_refl _) _
    replace d0:=(z.out.cell (p:=⟨m,g+j*7,none⟩) F).trans d0
    replace d1:=(z.out.cell (p:=⟨m,g+j*7+1,none⟩) F).trans d1
    replace d2:=(z.out.cell (p:=⟨m,g+j*7+2,none⟩) F).trans d2
    replace d3:=(z.out.cell (p:=⟨m,g+j*7+3,none⟩) F).trans d3
    replace d4:=(z.out.cell (p:=⟨m,g+j*7+4,none⟩) F).trans d4
    replace d5:=(z.out.cell (p:=⟨m,g+j*7+5,none⟩) F).trans d5
    replace d6:=(z.out.cell (p:=⟨m,g+j*7+6,none⟩) F).trans d6
    clear H s c0 c1 c2 c3 c4 c5 c6
    go_upto_region 7 with fail
    generalize g4:World.alloc _ _=W2
    have o:=Zl W1 #[.string yk,.int .i64 j0,.bool i9,.int .i64 j2,.string t3,.slice m4 f7 f6,.slice n5 g0 f8] 79
    rw [g4] at o
    have Y:Hid (Below W1.heap.size W1 W2):=by rw [<- g4];exact (Below.refl _ _).alloc (Nat.le_refl _) _
    have s:=e7.out.below Y.out e7.out.lt
    have P:=Zb (f9.out W2 (Za z.out Y.out))
    have a0:=s.cell 0 rfl
    have e0:=o.cell 0 rfl
    have a1:=s.cell 1 rfl
    have e1:=o.cell 1 rfl
    have a2:=s.cell 2 rfl
    have e2:=o.cell 2 rfl
    have a3:=s.cell 3 rfl
    have e3:=o.cell 3 rfl
    have a4:=s.cell 4 rfl
    have e4:=o.cell 4 rfl
    have a5:=s.cell 5 rfl
    have e5:=o.cell 5 rfl
    have a6:=s.cell 6 rfl
    have e6:=o.cell 6 rfl
    clear g4 s o f9 d0 d1 d2 d3 d4 d5 d6
    go_wp2_with fail
    refine P.out.mono ?_
    rintro e w3 ⟨rfl,E⟩
    have I:=Zb (Za N.out (Za (Za z.out Y.out) E))
    clear E P a0 e0 a1 e1 a2 e2 a3 e3 a4 e4 a5 e5 a6 e6
    cases ba with
    | false =>
     have G:Hid (res=false):=by
      show _=_
      rw [HE.out];rfl
     go_wp2_with fail
     go_ret
     exact ⟨by rw [G.out];rfl,I.out⟩
    | true =>
     have j1:Hid (Zbe (ks.drop (j+1)) (u.drop (j+1))=res):=by
      show _=_
      rw [HE.out];rfl
     go_wp2_with fail
     go_roundw
     case rel=>exact ⟨j+1,by omega,by go_num,I.out,j1.out⟩
     case measure=>simp [intOf];omega
   ·have G:Hid (res=true):=by
     show _=_
     rw [<- f3.out,List.drop_of_length_le (by have:=b7.out;omega)];rfl
    have f5:¬ (j:Int)<n:=by omega
    go_wp2_with fail
    go_ret
    exact ⟨by rw [G.out];rfl,N.out⟩
theorem Zlw (p q:Zo) (B:Nat) (v v':Value) (w:World) (R:B<=w.heap.size) (hT:Zhx w) (hv:Ja B w v p) (f0:Ja B w v' q) (hm:∀ x ∈ p.props,Zas x.2) (M:∀ x ∈ q.props,Zas x.2) :
  Calls Tryz.prog 48 #[v,v'] w fun e w'=>e=.returned (.bool (Zbf p q))/\Below w.heap.size w w':=by
 obtain ⟨la,lc,pa,pc,rfl,hs,hk,hp⟩:=hv
 obtain ⟨g6,h7,S,V,rfl,h6,i5,c9⟩:=f0
 have f2:=Zb (fun W (C:Below w.heap.size w W)=>Ztf p.labels q.labels B la g6 lc h7 W (Nat.le_trans R C.size) (hk.below (C.mono R)) (i5.below (C.mono R)) hs.1 hs.2 h6.1 h6.2)
 have P:=Zb (fun W (C:Below w.heap.size w W)=>Ziw p.props q.props B pa S pc V W (Nat.le_trans R C.size) (hT.below C) (Jd.below (C.mono R) hp) (Jd.below (C.mono R) c9) hm M)
 obtain ⟨res,l⟩:∃ r,Zbf p q=r:=⟨_,rfl⟩
 rw [l]
 unfold Zbf at l
 obtain ⟨b2,O⟩:∃ b,Zac p.labels q.labels=b:=⟨_,rfl⟩
 obtain ⟨b3,E⟩:∃ b,Zbg p.props q.props=b:=⟨_,rfl⟩
 rw [O,E] at l
 rw [O] at f2
 rw [E] at P
 obtain ⟨xi,xl,xp⟩:=p
 obtain ⟨yi,yl,yp⟩:=q
 simp only at f2 P l |-
 have K:=Zb l
 clear hs hk hp h6 i5 c9 hm M hT O E l
 go_enter Tryz.func48,Tryz.ntmps48
 go_upto_region 1 with fail
 generalize H:World.alloc _ _=W1
 have s:=(Zl w #[.int .i64 xi,.slice la xl.length lc,.slice pa xp.length pc] 47).alloc (.cells #[.int .i64 yi,.slice g6 yl.length h7,.slice S yp.length V] 47)
 have o:=Zl (w.alloc (.cells #[.int .i64 xi,.slice la xl.length lc,.slice pa xp.length pc] 47)) #[.int .i64 yi,.slice g6 yl.length h7,.slice S yp.length V] 47
 rw [H] at s o
 rw [World.size_alloc] at o
 have e7:=Zb s
 have b0:=Zb o
 have z:Hid (Below w.heap.size w W1):=by rw [<- H];exact ((Below.refl _ _).alloc (Nat.le_refl _) _).alloc (by simp) _
 clear H
 have a0:=s.cell 0 rfl
 have a1:=s.cell 1 rfl
 have a2:=s.cell 2 rfl
 have c0:=o.cell 0 rfl
 have c1:=o.cell 1 rfl
 have c2:=o.cell 2 rfl
 clear s o
 obtain ⟨b1,g9⟩:∃ b,(xi==yi)=b:=⟨_,rfl⟩
 rw [g9] at K
 cases b1 with
 | false =>
  have G:Hid (res=false):=by rw [<- K.out];rfl
  go_wp2_with fail
  go_ret
  exact ⟨by rw [G.out];rfl,z.out⟩
 | true =>
  go_wp2_with fail
  refine (f2.out W1 z.out).mono ?_
  rintro e w2 ⟨rfl,O⟩
  have Y:=Zb (Za z.out O)
  have i7:=Zb (e7.out.below O e7.out.lt)
  have j6:=Zb (b0.out.below O b0.out.lt)
  clear O a0 a1 a2 c0 c1 c2
  have a2:=i7.out.cell 2 rfl
  have c2:=j6.out.cell 2 rfl
  cases b2 with
  | false =>
   have G:Hid (res=false):=by rw [<- K.out];rfl
   go_wp2_with fail
   go_ret
   exact ⟨by rw [G.out];rfl,Y.out⟩
  | true =>
   have G:Hid (res=b3):=by rw [<- K.out];rfl
   go_wp2_with fail
   refine (P.out w2 Y.out).mono ?_
   rintro e w3 ⟨rfl,E⟩
   have I:=Zb (Za Y.out E)
   clear E
   go_wp2_with fail
   go_ret
   exact ⟨by rw [G.out];rfl,I.out⟩
theorem Zns (p q:Jg) (B:Nat) (v v':Value) (w:World) (R:B<=w.heap.size) (hT:Zhx w) (hv:Ji B w v p) (f0:Ji B w v' q) (hm:∀ x ∈ p.props,Zas x.2) (M:∀ x ∈ q.props,Zas x.2) :
  Calls Tryz.prog 50 #[v,v'] w fun e w'=>e=.returned (.bool (Zby p q))/\Below w.heap.size w w':=by
 obtain ⟨pa,pc,rfl,hp⟩:=hv
 obtain ⟨S,V,rfl,c9⟩:=f0
 have P:=Zb (fun W (C:Below w.heap.size w W)=>Ziw p.props q.props B pa S pc V W (Nat.le_trans R C.size) (hT.below C) (Jd.below (C.mono R) hp) (Jd.below (C.mono R) c9) hm M)
 obtain ⟨res,l⟩:∃ r,Zby p q=r:=⟨_,rfl⟩
 rw [l]
 unfold Zby at l
 obtain ⟨b3,E⟩:∃ b,Zbg p.props q.props=b:=⟨_,rfl⟩
 rw [E] at l
 rw [E] at P
 obtain ⟨xi,xf,xt,xs,xp⟩:=p
 obtain ⟨yi,yf,yt,ys,yp⟩:=q
 simp only at P l |-
 have K:=Zb l
 clear hp c9 hm M hT E l
 go_enter Tryz.func50,Tryz.ntmps50
 go_upto_region 1 with fail
 generalize H:World.alloc _ _=W1
 have s:=(Zl w #[.int .i64 xi,.int .i64 xf,.int .i64 xt,.string xs,.slice pa xp.length pc] 49).alloc (.cells #[.int .i64 yi,.int .i64 yf,.int .i64 yt,.string ys,.slice S yp.length V] 49)
 have o:=Zl (w.alloc (.cells #[.int .i64 xi,.int .i64 xf,.int .i64 xt,.string xs,.slice pa xp.length pc] 49)) #[.int .i64 yi,.int .i64 yf,.int .i64 yt,.string ys,.slice S yp.length V] 49
 rw [H] at s o
 rw [World.size_alloc] at o
 have z:Hid (Below w.heap.size w W1):=by rw [<- H];exact ((Below.refl _ _).alloc (Nat.le_refl _) _).alloc (by simp) _
 clear H
 have a0:=s.cell 0 rfl
 have c0:=o.cell 0 rfl
 have a1:=s.cell 1 rfl
 have c1:=o.cell 1 rfl
 have a2:=s.cell 2 rfl
 have c2:=o.cell 2 rfl
 have a3:=s.cell 3 rfl
 have c3:=o.cell 3 rfl
 have a4:=s.cell 4 rfl
 have c4:=o.cell 4 rfl
 clear s o
 obtain ⟨b1,g9⟩:∃ b,(xi==yi)=b:=⟨_,rfl⟩
 obtain ⟨b2,O⟩:∃ b,(xf==yf)=b:=⟨_,rfl⟩
 obtain ⟨b4,j8⟩:∃ b,(xt==yt)=b:=⟨_,rfl⟩
 obtain ⟨b5,i8⟩:∃ b,(xs.toList==ys.toList)=b:=⟨_,rfl⟩
 rw [g9,O,j8,i8] at K
 cases b1 with
 | false =>
  have G:Hid (res=false):=by rw [<- K.out];rfl
  go_wp2_with fail
  go_ret
  exact ⟨by rw [G.out];rfl,z.out⟩
 | true =>
  cases b2 with
  | false =>
   have G:Hid (res=false):=by rw [<- K.out];rfl
   go_wp2_with fail
   go_ret
   exact ⟨by rw [G.out];rfl,z.out⟩
  | true =>
   cases b4 with
   | false =>
    have G:Hid (res=false):=by rw [<- K.out];rfl
    go_wp2_with fail
    go_ret
    exact ⟨by rw [G.out];rfl,z.out⟩
   | true =>
    cases b5 with
    | false =>
     have G:Hid (res=false):=by rw [<- K.out];rfl
     go_wp2_with fail
     go_ret
     exact ⟨by rw [G.out];rfl,z.out⟩
    | true =>
     have G:Hid (res=b3):=by rw [<- K.out];rfl
     go_wp2_with fail
     refine (P.out W1 z.out).mono ?_
     rintro e w3 ⟨rfl,E⟩
     have I:=Zb (Za z.out E)
     clear E
     go_wp2_with fail
     go_ret
     exact ⟨by rw [G.out];rfl,I.out⟩
end
section
open Go.RowKit Go.Shelf
attribute [local go_sem] Oper.semAt_some
def Zj1  : List (ByteArray × Zi)->Bool
 | []=>true
 | q::r=>(checkN q.2==0)&&Zj1 r
structure Je8 (g:Zt):Prop where
 ofNode:∀ n ∈ g.nodes,∀ q ∈ n.props,Zln q.2/\q.2.total<=2000000
 ofRel:∀ r ∈ g.rels,∀ q ∈ r.props,Zln q.2/\q.2.total<=2000000
end
section
open Go.RowKit Go.Shelf
theorem Zf4 {α:Type} (a b:List α):(!((a.length:Int) != (b.length:Int)))=decide (a.length=b.length):=by
 rw [Bool.eq_iff_iff];simp
 omega
theorem Zhb  : ∀ (a b:List (ByteArray × Zi)),a.length=b.length->Zbe a b=(Zaa a b&&Zj1 a)
 | [],[],_=>rfl
 | [],_::_,h=>by simp at h
 | _::_,[],h=>by simp at h
 | p::r,q::t,h=>by
  rw [Zbe,Zaa,Zj1,Zto,Zhb r t (by simpa using h)]
  cases (p.1.toList==q.1.toList)<;>cases Zb3 p.2 q.2<;>cases (checkN p.2==0)<;>cases Zaa r t<;>rfl
theorem Zf5 (a b:List (ByteArray × Zi)):Zbg a b=(Zad a b&&Zj1 a):=by
 unfold Zbg Zad
 rw [Zf4]
 by_cases h:a.length=b.length
 ·rw [decide_eq_true h,Bool.true_and,Bool.true_and,Zhb a b h]
 ·rw [decide_eq_false h];rfl
theorem Zni (a b:Zo):Zbf a b=(Zu a b&&Zj1 a.props):=by
 unfold Zbf Zu
 rw [Zf5]
 cases (a.id==b.id)<;>cases Zac a.labels b.labels<;>cases Zad a.props b.props<;>rfl
theorem Zpf (a b:Jg):Zby a b=(Je a b&&Zj1 a.props):=by
 unfold Zby Je
 rw [Zf5]
 cases (a.id==b.id)<;>cases (a.fr==b.fr)<;>cases (a.tt==b.tt)<;>cases (a.type.toList==b.type.toList)<;>cases Zad a.props b.props<;>rfl
theorem Ze6 (a:List ByteArray):Zac a a=true:=by unfold Zac;rw [Zf4,Zfn];simp
theorem Zeg  : ∀ (a:List (ByteArray × Zi)),Zaa a a=true
 | []=>rfl
 | p::r=>by rw [Zaa,Zfo,Zeg r];simp
theorem Zcg (a:List (ByteArray × Zi)):Zad a a=true:=by unfold Zad;rw [Zf4,Zeg];simp
theorem Zeh  : ∀ (a:List Zo),Za0 a a=true
 | []=>rfl
 | p::r=>by rw [Za0,Zeh r];unfold Zu;rw [Ze6,Zcg];simp
theorem Ze7  : ∀ (a:List Jg),Zan a a=true
 | []=>rfl
 | p::r=>by rw [Zan,Ze7 r];unfold Je;rw [Zcg];simp
theorem Zjy (g:Zt):Zds g g=true:=by
 unfold Zds
 rw [Zf4,Zf4,Zeh,Ze7]
 simp
end
section
open Go.RowKit Go.Shelf
attribute [local go_sem] Oper.semAt_some
set_option maxRecDepth 100000 in
set_option maxHeartbeats 4000000 in
theorem Zix (g:Zt) (id:Int) (B:Nat) (v:Value) (w:World) (I:B<=w.heap.size) (M:Zr B w v g):Calls Tryz.prog 44 #[v,.int .i64 id] w fun e w'=>e=.returned (.int .i64 (Zcc id g.nodes 0))/\Below w.heap.size w w':=by
 obtain ⟨D,C,Q,N,rfl,h,_⟩:=M
 obtain ⟨s,K,nn,nr⟩:=g
 simp only at h |-
 obtain ⟨R,L,e1,h1,h2,u⟩:=h
 obtain ⟨rfl,rfl⟩:D=R/\C=L:=by injection e1 with e1 _ e2;exact ⟨e1,e2⟩
 have O:=Zb u
 obtain ⟨n,h⟩:∃ n,s.length=n:=⟨_,rfl⟩
 have E:=Zb h
 rw [h] at h1 |-
 obtain ⟨m,G⟩:∃ m,K.length=m:=⟨_,rfl⟩
 rw [G]
 obtain ⟨res,b⟩:∃ r,Zcc id s 0=r:=⟨_,rfl⟩
 have P:=Zb b
 rw [b]
 clear u h b G e1
 obtain ⟨l,c⟩:∃ l,w.alloc (.cells #[.slice D n C,.slice Q m N,.int .i64 nn,.int .i64 nr] 25)=l:=⟨_,rfl⟩
 have o:Below w.heap.size w l:=c▸(Below.refl _ _).alloc (Nat.le_refl _) _
 have X:l.cell? ⟨w.heap.size,0,none⟩=some (.slice D n C):=c▸Zaj _ _ _ _ _ rfl
 have f:=Zb o
 have p:=Zb c
 clear o c
 go_enter Tryz.func44,Tryz.ntmps44
 go_upto_region 1 with fail
 rw [p.out]
 clear p
 go_wp2_with fail
 go_loopw [5] (fun i wr=>∃ j:Nat,j<=n/\i=.int .i64 j/\wr=l/\Zcc id (s.drop j) j=res) (fun i _=>n - (intOf i).toNat)
 case atStart=>exact ⟨0,Nat.zero_le _,rfl,rfl,P.out⟩
 case round =>
  obtain ⟨j,W,rfl,rfl,k⟩:=hrel
  have d:=Zb k
  clear k
  by_cases hlt:j<n
  ·have x:(j:Int)<n:=by omega
   obtain ⟨⟨xi,S,T⟩,y⟩:∃ q,s[j]?=some q:=⟨_,List.getElem?_eq_getElem (by have:=E.out;omega)⟩
   have H:=Zb y
   obtain ⟨U,off,rfl,z,F⟩:=O.out.resolve_left (by intro e;rw [e] at y;simp at y)
   obtain ⟨la,lc,V,⟨c0,c1,c2⟩,_⟩:=(F j _ y).below (f.out.mono I) z
   simp only at c0
   clear F y c1 c2
   by_cases he:xi=id
   ·have A:(xi==id)=true:=by simp [he]
    have t:Hid (res=(j:Int)):=by
     show _=_
     rw [<- d.out,Zrm H.out];exact if_pos he
    clear he
    go_wp2_with fail
    go_ret
    exact ⟨by rw [t.out];rfl,f.out⟩
   ·have A:(xi==id)=false:=by simp [he]
    have t:Hid (Zcc id (s.drop (j+1)) (j+1)=res):=by
     show _=_
     rw [<- d.out,Zrm H.out];exact (if_neg he).symm
    clear he
    go_wp2_with fail
    go_roundw
    case rel=>exact ⟨j+1,by omega,by go_num,trivial,t.out⟩
    case measure=>simp [intOf];omega
  ·have t:Hid (res=-1):=by
    show _=_
    rw [<- d.out,List.drop_of_length_le (by have:=E.out;omega)]
    rfl
   have x:¬ (j:Int)<n:=by omega
   go_wp2_with fail
   go_ret
   exact ⟨by rw [t.out];rfl,f.out⟩
end
