/- Nodes and relationships that are copied one by one, their numbers moved: as rows. Values in a row; each where it comes first, in the document's words. What nodes with a label have under a key, in the document's words. -/
import Derived.Test.YthfilnflgahcjaaGreatDoorJoin34
import Derived.Test.YthfilnflgahcjaaGreatDoorJoin25
import Derived.Test.YthfilnflgahcjaaGreatDoorJoin33
import Derived.Test.YthfilnflgahcjaaGreatDoorJoin3
import Derived.Test.YthfilnflgahcjaaGreatDoorJoin11
import Derived.Laws.Rows
namespace Go.Proofs.YthfilnflgahcjaaGreatDoor
open Go.ChangeShapes Go.WideShapes Go.ChangeAt Go.RowKit Go.Shelf Go.Deep
set_option linter.all false
abbrev SlT:=Option Addr × Nat × Nat
def slV (s:SlT):Value:=.slice s.1 s.2.1 s.2.2
abbrev Jhb:=Int × SlT × SlT
abbrev Jhc:=Int × Int × Int × ByteArray × SlT
def Jet (x:Jhb):List Value:=[.int .i64 x.1,slV x.2.1,slV x.2.2]
def Jci (x:Jhc):List Value:=[.int .i64 x.1,.int .i64 x.2.1,.int .i64 x.2.2.1,.string x.2.2.2.1,slV x.2.2.2.2]
def Jfc (B:Nat) (w:World) (n:Zj) (x:Jhb):Prop:=x.1=n.id/\x.2.1.2.1=n.labels.length/\(n.labels.length<=x.2.1.2.2/\x.2.1.2.2<=9223372036854775807)/\Zbh B w x.2.1.1 n.labels/\Zbq B w (slV x.2.2) n.props
def Jfd (B:Nat) (w:World) (n:Zbr) (x:Jhc):Prop:=(x.1=n.id/\x.2.1=n.fr/\x.2.2.1=n.tt/\x.2.2.2.1=n.type)/\n.type.size<=maxLen/\Zbq B w (slV x.2.2.2.2) n.props
theorem Jfe {B:Nat} {w:World} {bl off:Nat} {n:Zj} (h:Zlj B w bl off n):∃ x:Jhb,Jfc B w n x/\∀ j u,(Jet x)[j]?=some u->w.cell? ⟨bl,off+j,none⟩=some u:=by
 obtain ⟨la,lc,H,⟨c0,c1,c2⟩,z,hk,o⟩:=h
 have g:=o
 obtain ⟨pa,pc,e,_⟩:=o
 subst e
 refine ⟨(n.id,(la,n.labels.length,lc),(pa,n.props.length,pc)),⟨rfl,rfl,z,hk,g⟩,fun j u b=>?_⟩
 match j,b with
 | 0,b=>simp only [Jet,List.getElem?_cons_zero,Option.some.injEq] at b;subst b;exact c0
 | 1,b=>simp only [Jet,slV,List.getElem?_cons_succ,List.getElem?_cons_zero,Option.some.injEq] at b;subst b;exact c1
 | 2,b=>simp only [Jet,slV,List.getElem?_cons_succ,List.getElem?_cons_zero,Option.some.injEq] at b;subst b;exact c2
 | j+3,b=>simp [Jet] at b
theorem Jhm {B:Nat} {w:World} {bl off:Nat} {n:Zbr} (h:Zsd B w bl off n):∃ x:Jhc,Jfd B w n x/\∀ j u,(Jci x)[j]?=some u->w.cell? ⟨bl,off+j,none⟩=some u:=by
 obtain ⟨H,⟨c0,c1,c2,c3,c4⟩,z,o⟩:=h
 have g:=o
 obtain ⟨pa,pc,e,_⟩:=o
 subst e
 refine ⟨(n.id,n.fr,n.tt,n.type,(pa,n.props.length,pc)),⟨⟨rfl,rfl,rfl,rfl⟩,z,g⟩,fun j u b=>?_⟩
 match j,b with
 | 0,b=>simp only [Jci,List.getElem?_cons_zero,Option.some.injEq] at b;subst b;exact c0
 | 1,b=>simp only [Jci,slV,List.getElem?_cons_succ,List.getElem?_cons_zero,Option.some.injEq] at b;subst b;exact c1
 | 2,b=>simp only [Jci,slV,List.getElem?_cons_succ,List.getElem?_cons_zero,Option.some.injEq] at b;subst b;exact c2
 | 3,b=>simp only [Jci,slV,List.getElem?_cons_succ,List.getElem?_cons_zero,Option.some.injEq] at b;subst b;exact c3
 | 4,b=>simp only [Jci,slV,List.getElem?_cons_succ,List.getElem?_cons_zero,Option.some.injEq] at b;subst b;exact c4
 | j+5,b=>simp [Jci] at b
theorem Zxc {α β:Type} [Inhabited β] {k B:Nat} {w:World} {At:World->Nat->Nat->α->Prop} {A:α->β->Prop} {enc:β->List Value} {a:Option Addr} {m c:Nat} {ns:List α} (K:∀ bl off n,At w bl off n->∃ x:β,A n x/\∀ j u,(enc x)[j]?=some u->w.cell? ⟨bl,off+j,none⟩=some u) (h:Zho k At B w (.slice a m c) ns) :
  ∃ xs:List β,xs.length=ns.length/\(∀ (i:Nat) n x,ns[i]?=some n->xs[i]?=some x->A n x)/\Zal k enc B w (.slice a m c) xs:=by
 obtain ⟨N,O,e,E,C,I⟩:=h
 injection e with e1 e2 e3
 subst e1 e2 e3
 rcases I with rfl | ⟨bl,off,ha,hl,F⟩
 ·exact ⟨[],rfl,fun i n x hn=>by simp at hn,⟨_,_,rfl,E,C,.inl rfl⟩⟩
 ·have y:∀ i,i<ns.length->∃ x:β,∀ n,ns[i]?=some n->A n x/\∀ j u,(enc x)[j]?=some u->w.cell? ⟨bl,off+i*k+j,none⟩=some u:=by
   intro i d
   obtain ⟨x,G,M⟩:=K _ _ _ (F i ns[i] (List.getElem?_eq_getElem d))
   refine ⟨x,fun n hn=>?_⟩
   rw [List.getElem?_eq_getElem d] at hn
   cases hn
   exact ⟨G,M⟩
  obtain ⟨f,D⟩:=choose_lt y
  have l:((List.range ns.length).map f).length=ns.length:=by simp
  have r:∀ (i:Nat) x,((List.range ns.length).map f)[i]?=some x->i<ns.length/\x=f i:=fun i x d=>by
   rw [List.getElem?_map] at d
   obtain ⟨q,y,rfl⟩:=Option.map_eq_some_iff.1 d
   rw [List.getElem?_eq_some_iff] at y
   obtain ⟨p,t⟩:=y
   simp only [List.length_range,List.getElem_range] at p t
   subst t
   exact ⟨p,rfl⟩
  refine ⟨(List.range ns.length).map f,l,fun i n x hn d=>?_,⟨_,_,by rw [l],by rw [l];exact E,C,.inr ⟨bl,off,ha,hl,fun i x d j u L=>?_⟩⟩⟩
  ·obtain ⟨v,rfl⟩:=r i x d
   exact (D i v n hn).1
  ·obtain ⟨v,rfl⟩:=r i x d
   exact (D i v _ (List.getElem?_eq_getElem v)).2 j u L
theorem Zk6 {B:Nat} {w:World} {a:Option Addr} {m c:Nat} {ns:List Zj} (h:Zfc B w (.slice a m c) ns):∃ xs:List Jhb,xs.length=ns.length/\(∀ (i:Nat) n x,ns[i]?=some n->xs[i]?=some x->Jfc B w n x)/\Zal 3 Jet B w (.slice a m c) xs :=
 Zxc (fun _ _ _ h=>Jfe h) h
theorem Zxd {B:Nat} {w:World} {a:Option Addr} {m c:Nat} {ns:List Zbr} (h:Zgd B w (.slice a m c) ns):∃ xs:List Jhc,xs.length=ns.length/\(∀ (i:Nat) n x,ns[i]?=some n->xs[i]?=some x->Jfd B w n x)/\Zal 5 Jci B w (.slice a m c) xs :=
 Zxc (fun _ _ _ h=>Jhm h) h
end Go.Proofs.YthfilnflgahcjaaGreatDoor

namespace Go.Proofs.YthfilnflgahcjaaGreatDoor
open Go.RowKit Go.Shelf Go.Maps
set_option linter.all false
attribute [local go_sem] Oper.semAt_some
abbrev Zr4:=Int × Bool × Int × ByteArray × SlT × SlT
def Zl6 (x:Zr4):List Value:=[.int .i64 x.1,.bool x.2.1,.int .i64 x.2.2.1,.string x.2.2.2.1,slV x.2.2.2.2.1,slV x.2.2.2.2.2]
theorem Zxw:∀ x,∀ u ∈ Zl6 x,u.oneCell'=true:=fun x u r=>by
 simp only [Zl6,slV,List.mem_cons,List.not_mem_nil,or_false] at r
 rcases r with rfl | rfl | rfl | rfl | rfl | rfl<;>rfl
theorem Jcr:Zge 86 88 6 88 (.agg #[.int .i64 0,.bool false,.int .i64 0,.string ⟨#[]⟩,.slice none 0 0,.slice none 0 0]):=Zhp (by kernel_rfl) (by kernel_rfl) rfl (by decide) (by decide)
def Zxx (B:Nat) (w:World) (t:Zd) (x:Zr4):Prop:=Zb6 B w (.agg #[.int .i64 x.1,.bool x.2.1,.int .i64 x.2.2.1,.string x.2.2.2.1,slV x.2.2.2.2.1,slV x.2.2.2.2.2]) t
abbrev Jbc:=ByteArray × Zr4
def Zzm (x:Jbc):List Value:=.string x.1::Zl6 x.2
def Jcs (B:Nat) (w:World) (q:ByteArray × Zd) (x:Jbc):Prop:=x.1=q.1/\Zxx B w q.2 x.2
theorem Jf8 {B:Nat} {w:World} {bl off:Nat} {q:ByteArray × Zd} (h:Zii B w bl off q):∃ x:Jbc,Jcs B w q x/\∀ j u,(Zzm x)[j]?=some u->w.cell? ⟨bl,off+j,none⟩=some u:=by
 obtain ⟨h0,h1,v0,v1,v2,v3,v4,v5,⟨c0,c1,c2,c3,c4,c5⟩,hv⟩:=h
 obtain ⟨k,t⟩:=q
 obtain ⟨tk,tb,tn,f8,g3,e9⟩:=t
 have f9:=hv
 simp only [Zb6] at hv
 obtain ⟨ka,kc,la,lc,e,_⟩:=hv
 simp only [Value.agg.injEq,Array.mk.injEq,List.cons.injEq,and_true] at e
 obtain ⟨rfl,rfl,rfl,rfl,rfl,rfl⟩:=e
 refine ⟨(k,tk,tb,tn,f8,(ka,g3.length,kc),(la,e9.length,lc)),⟨rfl,f9⟩,fun j u f=>?_⟩
 match j,f with
 | 0,f=>simp only [Zzm,List.getElem?_cons_zero,Option.some.injEq] at f;subst f;exact h0
 | 1,f=>simp only [Zzm,Zl6,List.getElem?_cons_succ,List.getElem?_cons_zero,Option.some.injEq] at f;subst f;exact c0
 | 2,f=>simp only [Zzm,Zl6,List.getElem?_cons_succ,List.getElem?_cons_zero,Option.some.injEq] at f;subst f;exact c1
 | 3,f=>simp only [Zzm,Zl6,List.getElem?_cons_succ,List.getElem?_cons_zero,Option.some.injEq] at f;subst f;exact c2
 | 4,f=>simp only [Zzm,Zl6,List.getElem?_cons_succ,List.getElem?_cons_zero,Option.some.injEq] at f;subst f;exact c3
 | 5,f=>simp only [Zzm,Zl6,slV,List.getElem?_cons_succ,List.getElem?_cons_zero,Option.some.injEq] at f;subst f;exact c4
 | 6,f=>simp only [Zzm,Zl6,slV,List.getElem?_cons_succ,List.getElem?_cons_zero,Option.some.injEq] at f;subst f;exact c5
 | j+7,f=>simp [Zzm,Zl6] at f
theorem Zxy {B:Nat} {w:World} {a:Option Addr} {m c:Nat} {ps:List (ByteArray × Zd)} (h:Zbq B w (.slice a m c) ps):∃ xs:List Jbc,xs.length=ps.length/\(∀ (i:Nat) q x,ps[i]?=some q->xs[i]?=some x->Jcs B w q x)/\Zal 7 Zzm B w (.slice a m c) xs :=
 Zxc (At:=Zii B) (fun _ _ _ h=>Jf8 h) h
def Zih (ts:List Zd):List Zd:=ts.foldl (fun out t=>if (out.any fun u=>Ziy u t==0)=true then out else out++[t]) []
def Jbd (out:List Zd) (t:Zd) (q:Nat):Bool:=(out.take q).any fun u=>Ziy u t==0
theorem Zxz {out:List Zd} {t u:Zd} {q:Nat} (h:out[q]?=some u):Jbd out t (q+1)=(Jbd out t q||(Ziy u t==0)):=by
 unfold Jbd
 rw [List.take_add_one,h]
 simp [List.any_append]
theorem Zlf {ts:List Zd} {j:Nat} {t:Zd} (h:ts[j]?=some t):Zih (ts.take (j+1))=if Jbd (Zih (ts.take j)) t (Zih (ts.take j)).length=true then Zih (ts.take j) else Zih (ts.take j)++[t]:=by
 rw [List.take_add_one,h]
 show Zih (ts.take j++[t])=_
 unfold Jbd
 rw [List.take_length]
 unfold Zih
 rw [List.foldl_append]
 rfl
theorem Ztx (ts:List Zd) (j:Nat) (f:j<=ts.length):(Zih (ts.take j)).length<=j:=by
 induction j with
 | zero=>simp [Zih]
 | succ j ih =>
  have:=ih (by omega)
  rw [Zlf (List.getElem?_eq_getElem (by omega:j<ts.length))]
  split
  ·omega
  ·rw [List.length_append];simp;omega
theorem Jbe {ts:List Zd}:∀ j,j<=ts.length->∀ t ∈ Zih (ts.take j),t ∈ ts:=by
 intro j
 induction j with
 | zero=>intro _ t ht;simp [Zih] at ht
 | succ j ih =>
  intro f t ht
  rw [Zlf (List.getElem?_eq_getElem (by omega:j<ts.length))] at ht
  split at ht
  ·exact ih (by omega) t ht
  ·rcases List.mem_append.1 ht with h | h
   ·exact ih (by omega) t h
   ·simp only [List.mem_cons,List.not_mem_nil,or_false] at h
    rw [h];exact List.getElem_mem _
structure Jhw (B0:Nat) (w:World) (os:List Zd) (v:Value) (D:List Zr4) (wr:World):Prop where
 o:Jb 88 6 Zl6 w.heap.size wr v D
 l:D.length=os.length
 i:∀ (k:Nat) u y,os[k]?=some u->D[k]?=some y->Zxx B0 w u y
 b:Below w.heap.size w wr
set_option maxRecDepth 100000 in
set_option maxHeartbeats 4000000 in
theorem Zr5 (xs:List Zr4) (ts:List Zd) (v:Value) (B0 B:Nat) (w:World) (a8:B0<=B) (hB:B<=w.heap.size) (hs:Zal 6 Zl6 B w v xs) (hl:xs.length=ts.length) (hi:∀ (i:Nat) t x,ts[i]?=some t->xs[i]?=some x->Zxx B0 w t x) (hn:ts.length<=100000) (hc:∀ t ∈ ts,Zeh t) :
  Calls Tryz.prog 106 #[v] w fun e w'=>∃ v' D,e=.returned v'/\Jb 88 6 Zl6 w.heap.size w' v' D/\D.length=(Zih ts).length/\Below w.heap.size w w':=by
 obtain ⟨xa,xc,rfl,f7,g9,b0⟩:=hs
 have d9:=Za b0
 have E:=Za (And.intro hl (And.intro hi hc))
 obtain ⟨m,hm⟩:∃ n,xs.length=n:=⟨_,rfl⟩
 have HM:=Za hm
 have g8:m<=100000:=by omega
 rw [hm] at f7 |-
 clear b0 hl hi hc hm hn
 go_enter Tryz.func106,Tryz.ntmps106
 go_wp2_with fail
 go_loopw [4,3] (fun i o wr=>∃ (j:Nat) (a:Option Addr) (c l:Nat) (D:List Zr4),j<=m/\i=.int .i64 j/\o=.slice a l c/\Jhw B0 w (Zih (ts.take j)) o D wr) (fun i _ _=>m - (intOf i).toNat)
 case atStart=>exact ⟨0,none,0,0,[],Nat.zero_le _,rfl,rfl,Jo _ _ _ _ _,rfl,fun k u y h=>by simp [Zih] at h,Below.refl _ _⟩
 case round =>
  obtain ⟨j,oa,oc,ol,D,f,rfl,rfl,hI⟩:=hrel
  have A:=Za hI
  obtain ⟨wj,g5⟩:∃ W,W=wr:=⟨_,rfl⟩
  subst g5
  have a3:ol=D.length:=by
   obtain ⟨a,c,e⟩:=hI.o.slice
   injection e with _ e2 _
  have K:=Za a3
  have I:=Ztx ts j (by have:=E.out.1;have:=HM.out;omega)
  have g6:ol<=100000:=by have:=hI.l;omega
  by_cases hlt:j<m
  ·have b3:(j:Int)<m:=by omega
   obtain ⟨t,ht⟩:∃ t,ts[j]?=some t:=⟨_,List.getElem?_eq_getElem (by have:=E.out.1;have:=HM.out;omega)⟩
   obtain ⟨x,hx⟩:∃ x,xs[j]?=some x:=⟨_,List.getElem?_eq_getElem (by have:=HM.out;omega)⟩
   have b9:=E.out.2.1 j t x ht hx
   have b2:=List.mem_of_getElem? ht
   have G:=Zlf ht
   obtain ⟨out,N⟩:∃ out,Zih (ts.take j)=out:=⟨_,rfl⟩
   have b4:=Za N
   rw [N] at G I A
   obtain ⟨T,x1,x2,U,⟨k1,k2,k3⟩,⟨l1,l2,X⟩⟩:=x
   obtain ⟨bl,off,rfl,e7,c8⟩:=d9.out.resolve_left (by intro e;rw [e] at hx;simp at hx)
   have f6:bl<w.heap.size:=Nat.lt_of_lt_of_le e7 hB
   have g:Hid (∀ W,Below w.heap.size w W->∀ (i:Nat) u,(Zl6 (T,x1,x2,U,(k1,k2,k3),(l1,l2,X)))[i]?=some u->W.cell? ⟨bl,off+j*6+i,none⟩=some u):=fun W hb i u r=>(hb.cell (p:=⟨bl,off+j*6+i,none⟩) f6).trans (c8 j _ hx i u r)
   have a7:=Za b9
   have b1:=Za G
   have g0:=Za (E.out.2.2 t b2)
   have c7:∀ u ∈ out,Zeh u:=fun u r=>E.out.2.2 u (Jbe j (by have:=E.out.1;have:=HM.out;omega) u (by rw [b4.out];exact r))
   have g2:=Za c7
   have g7:=Za I
   clear hI N a3 ht hx b9 b2 G c8 c7 I
   go_wp2_with fail
   go_loopw [6,5] (fun i b wr=>∃ (q:Nat),q<=ol/\i=.int .i64 q/\b=.bool (Jbd out t q)/\Below wj.heap.size wj wr) (fun i _ _=>ol - (intOf i).toNat)
   case atStart=>exact ⟨0,Nat.zero_le _,rfl,by simp [Jbd],Below.refl _ _⟩
   case round =>
    obtain ⟨q,hq,rfl,rfl,a4⟩:=hrel
    have s:=Za a4
    have d:=Za (Below.on A.out.b a4)
    clear a4
    obtain ⟨mt,a2⟩:∃ b,Jbd out t q=b:=⟨_,rfl⟩
    have S:=Za a2
    rw [a2]
    clear a2
    by_cases hlq:q<ol
    ·have a9:(q:Int)<ol:=by omega
     obtain ⟨y,C⟩:∃ y,D[q]?=some y:=⟨_,List.getElem?_eq_getElem (by have:=K.out;omega)⟩
     obtain ⟨u,r⟩:∃ u,out[q]?=some u:=⟨_,List.getElem?_eq_getElem (by have:=A.out.l;have:=K.out;omega)⟩
     have d6:=A.out.i q u y r C
     have R:=Zxz (t:=t) r
     rw [S.out] at R
     have b5:=Za R
     obtain ⟨y0,y1,y2,y3,⟨n1,n2,n3⟩,⟨o1,o2,o3⟩⟩:=y
     obtain ⟨a0,g4,e0,_,_,b6⟩:=Jb.srow (enc:=Zl6) (k:=6) (fun _=>rfl) A.out.o
     obtain ⟨rfl,rfl⟩:oa=a0/\oc=g4:=by injection e0 with a b c;exact ⟨a,c⟩
     clear e0
     obtain ⟨M,L,rfl,F,H⟩:=b6.resolve_left (by intro e;rw [e] at C;simp at C)
     have e0:∀ u:Up wr,u.x.cell? ⟨M,L+q*6,none⟩=some (.int .i64 y0):=fun u=>u.cell ((s.out.cell (p:=⟨M,L+q*6+0,none⟩) F).trans (H q _ C 0 _ rfl))
     have e1:∀ u:Up wr,u.x.cell? ⟨M,L+q*6+1,none⟩=some (.bool y1):=fun u=>u.cell ((s.out.cell (p:=⟨M,L+q*6+1,none⟩) F).trans (H q _ C 1 _ rfl))
     have e2:∀ u:Up wr,u.x.cell? ⟨M,L+q*6+2,none⟩=some (.int .i64 y2):=fun u=>u.cell ((s.out.cell (p:=⟨M,L+q*6+2,none⟩) F).trans (H q _ C 2 _ rfl))
     have e3:∀ u:Up wr,u.x.cell? ⟨M,L+q*6+3,none⟩=some (.string y3):=fun u=>u.cell ((s.out.cell (p:=⟨M,L+q*6+3,none⟩) F).trans (H q _ C 3 _ rfl))
     have e4:∀ u:Up wr,u.x.cell? ⟨M,L+q*6+4,none⟩=some (.slice n1 n2 n3):=fun u=>u.cell ((s.out.cell (p:=⟨M,L+q*6+4,none⟩) F).trans (H q _ C 4 _ rfl))
     have e5:∀ u:Up wr,u.x.cell? ⟨M,L+q*6+5,none⟩=some (.slice o1 o2 o3):=fun u=>u.cell ((s.out.cell (p:=⟨M,L+q*6+5,none⟩) F).trans (H q _ C 5 _ rfl))
     have f0:∀ u:Up wr,u.x.cell? ⟨bl,off+j*6,none⟩=some (.int .i64 T):=fun u=>u.cell (g.out wr d.out 0 _ rfl)
     have f1:∀ u:Up wr,u.x.cell? ⟨bl,off+j*6+1,none⟩=some (.bool x1):=fun u=>u.cell (g.out wr d.out 1 _ rfl)
     have f2:∀ u:Up wr,u.x.cell? ⟨bl,off+j*6+2,none⟩=some (.int .i64 x2):=fun u=>u.cell (g.out wr d.out 2 _ rfl)
     have f3:∀ u:Up wr,u.x.cell? ⟨bl,off+j*6+3,none⟩=some (.string U):=fun u=>u.cell (g.out wr d.out 3 _ rfl)
     have f4:∀ u:Up wr,u.x.cell? ⟨bl,off+j*6+4,none⟩=some (.slice k1 k2 k3):=fun u=>u.cell (g.out wr d.out 4 _ rfl)
     have f5:∀ u:Up wr,u.x.cell? ⟨bl,off+j*6+5,none⟩=some (.slice l1 l2 X):=fun u=>u.cell (g.out wr d.out 5 _ rfl)
     have O:Nonempty (Up wr):=⟨⟨wr,Below.refl _ _⟩⟩
     obtain ⟨od,a5⟩:∃ z,Ziy u t=z:=⟨_,rfl⟩
     have e6:=Za a5
     have P:Hid (∀ W,Below wr.heap.size wr W->Calls Tryz.prog 137 #[.agg #[.int .i64 y0,.bool y1,.int .i64 y2,.string y3,.slice n1 n2 n3,.slice o1 o2 o3],.agg #[.int .i64 T,.bool x1,.int .i64 x2,.string U,.slice k1 k2 k3,.slice l1 l2 X]] W fun e w'=>e=.returned (.int .i64 od)/\Below W.heap.size W w'):=fun W hb=>by
      have b7:Below B0 w W:=(Below.on d.out hb).mono (Nat.le_trans a8 hB)
      have h:=Zvu u B0 _ _ t W (Nat.le_trans a8 (Nat.le_trans hB (Below.on d.out hb).size)) (Zb6.below b7 d6) (Zb6.below b7 a7.out) (g2.out u (List.mem_of_getElem? r)) g0.out
      rwa [a5] at h
     clear C d6 b6 F H a5 R
     go_upto_region 9 with fail
     cases mt with
     | true =>
      refine Zed (by kernel_rfl) (by kernel_rfl) ?_
      repeat (go_big_quiet_step (fail))
      refine wpQuiet_nil ?_
      rintro w7 ⟨⟨W7,Q⟩,rfl⟩
      have V:=Za (Below.on s.out Q)
      clear e0 e1 e2 e3 e4 e5 f0 f1 f2 f3 f4 f5 O Q P
      go_wp2_with fail
      go_roundw
      case rel=>exact ⟨q+1,by omega,by go_num,by rw [b5.out];rfl,V.out⟩
      case measure=>simp [intOf];omega
     | false =>
      refine Zed (by kernel_rfl) (by kernel_rfl) ?_
      repeat (go_big_quiet_step (first | (go_at_call 137;exact Up.call (P.out _ (Up.b _)))))
      refine wpQuiet_nil ?_
      rintro w7 ⟨⟨W7,Q⟩,rfl⟩
      have V:=Za (Below.on s.out Q)
      clear e0 e1 e2 e3 e4 e5 f0 f1 f2 f3 f4 f5 O Q P
      go_wp2_with fail
      go_roundw
      case rel=>exact ⟨q+1,by omega,by go_num,by rw [b5.out,e6.out];rfl,V.out⟩
      case measure=>simp [intOf];omega
    ·have a9:¬ (q:Int)<ol:=by omega
     have b8:Hid (Jbd out t out.length=mt):=by
      show _=_
      rw [<- S.out];congr 1;have:=A.out.l;have:=K.out;omega
     have d7:=Za (A.out.o.below s.out)
     cases mt with
     | true =>
      have Y:Hid (Zih (ts.take (j+1))=out):=by show _=_;rw [b1.out,b8.out];rfl
      clear S
      go_wp2_with fail
      go_roundw
      case rel=>exact ⟨j+1,_,_,_,D,by omega,by go_num,rfl,d7.out,by rw [Y.out];exact A.out.l,by rw [Y.out];exact A.out.i,d.out⟩
      case measure=>simp [intOf];omega
     | false =>
      have Y:Hid (Zih (ts.take (j+1))=out++[t]):=by show _=_;rw [b1.out,b8.out];rfl
      clear S
      have d0:=g.out wr d.out 0 _ rfl
      have d1:=g.out wr d.out 1 _ rfl
      have d2:=g.out wr d.out 2 _ rfl
      have d3:=g.out wr d.out 3 _ rfl
      have d4:=g.out wr d.out 4 _ rfl
      have d5:=g.out wr d.out 5 _ rfl
      simp only [slV,Nat.add_zero] at d0 d1 d2 d3 d4 d5
      obtain ⟨v',W',p1,p2,p3,_⟩:=Jd (t:=86) (ty:=86) (c:=1) (bl:=wr.heap.size) (off:=0) (x:=(T,x1,x2,U,(k1,k2,k3),(l1,l2,X))) Jcr (fun _=>rfl) Zxw (d7.out.below (Zc wr (.cells #[.int .i64 T,.bool x1,.int .i64 x2,.string U,.slice k1 k2 k3,.slice l1 l2 X] 88))) (fun jj u r=>by
       rw [Nat.zero_add];exact Zh _ _ _ _ _ (by simpa [Zl6,slV] using r)) (by have:=K.out;omega) (by have:=d.out.size;simp;omega)
      obtain ⟨a6,c6,g1⟩:=p2.slice
      subst g1
      have c9:=Za p2
      have e8:=Za ((d.out.trans ((Zc wr _).mono d.out.size)).trans p3)
      have a1:(D++[((T,x1,x2,U,(k1,k2,k3),(l1,l2,X)):Zr4)]).length=ol+1:=by rw [List.length_append];have:=K.out;simp;omega
      rw [a1] at p1 c9
      have d8:=Za a1
      clear p2 p3 a1
      go_wp2_with (at_builtin;refine Lib.wpList_append_run _ rfl _ _ _ _ rfl _ _ rfl rfl _ _ p1 ?_)
      go_roundw
      case rel =>
       refine ⟨j+1,a6,c6,ol+1,D++[((T,x1,x2,U,(k1,k2,k3),(l1,l2,X)):Zr4)],by omega,by go_num,rfl,c9.out,?_,?_,e8.out⟩
       ·rw [Y.out,d8.out,List.length_append];have:=A.out.l;have:=K.out;simp;omega
       ·rw [Y.out]
        intro k u y r C
        by_cases hk:k<out.length
        ·rw [List.getElem?_append_left hk] at r
         rw [List.getElem?_append_left (by have:=A.out.l;omega)] at C
         exact A.out.i k u y r C
        ·rw [List.getElem?_append_right (by omega)] at r
         rw [List.getElem?_append_right (by have:=A.out.l;omega)] at C
         have e1:k - out.length=0:=by
          have:=(List.getElem?_eq_some_iff.1 r).1;simp at this;omega
         have e2:k - D.length=0:=by have:=A.out.l;omega
         rw [e1] at r;rw [e2] at C
         simp only [List.getElem?_cons_zero,Option.some.injEq] at r C
         subst r C
         exact a7.out
      case measure=>simp [intOf];omega
  ·have b3:¬ (j:Int)<m:=by omega
   have Y:Hid (Zih (ts.take j)=Zih ts):=by show _=_;rw [List.take_of_length_le (by have:=E.out.1;have:=HM.out;omega)]
   clear hI a3 I
   go_wp2_with fail
   go_ret
   exact ⟨_,rfl,D,A.out.o,by rw [<- Y.out];exact A.out.l,A.out.b⟩
end Go.Proofs.YthfilnflgahcjaaGreatDoor

namespace Go.Proofs.YthfilnflgahcjaaGreatDoor
open Go.RowKit Go.Shelf Go.Maps
set_option linter.all false
attribute [local go_sem] Oper.semAt_some
theorem Zie {B:Nat} {w:World} {a:Option Addr} {c:Nat} {ks:List ByteArray} (h:Zbh B w a ks) (h1:ks.length<=c/\c<=9223372036854775807):Zal 1 Zap B w (.slice a ks.length c) ks:=by
 refine ⟨a,c,rfl,h1.1,h1.2,h.imp id fun ⟨b,off,e,hl,hc⟩=>⟨b,off,e,hl,fun i x hi j u D=>?_⟩⟩
 obtain ⟨f5,N⟩:=List.getElem?_eq_some_iff.1 hi
 have:=(hc i f5).1
 rw [show ks.getD i ⟨#[]⟩=x by rw [List.getD,hi];rfl] at this
 match j,D with
 | 0,D=>simp only [Zap,List.getElem?_cons_zero,Option.some.injEq] at D;subst D;rw [Nat.mul_one,Nat.add_zero];exact this
 | j+1,D=>simp [Zap] at D
def Zj5 (lab key:ByteArray) (ls:List ByteArray) (q:ByteArray × Zd):Bool:=Zdj lab ls&&decide (q.1=key)
def Zcc (lab key:ByteArray) (ls:List ByteArray) (O:List (ByteArray × Zd)):List Zd:=O.flatMap fun q=>if Zj5 lab key ls q=true then [q.2] else []
def Jw (lab key:ByteArray) (ns:List Zj):List Zd:=ns.flatMap fun n=>Zcc lab key n.labels n.props
theorem Ja4 {lab key:ByteArray} {ls:List ByteArray} {O:List (ByteArray × Zd)} {k:Nat} {q:ByteArray × Zd} (h:O[k]?=some q):Zcc lab key ls (O.take (k+1))=Zcc lab key ls (O.take k)++(if Zj5 lab key ls q=true then [q.2] else []):=by
 unfold Zcc
 rw [List.take_add_one,h,List.flatMap_append];simp
theorem Ztu {lab key:ByteArray} {ns:List Zj} {j:Nat} {n:Zj} (h:ns[j]?=some n):Jw lab key (ns.take (j+1))=Jw lab key (ns.take j)++Zcc lab key n.labels n.props:=by
 unfold Jw
 rw [List.take_add_one,h,List.flatMap_append];simp
theorem Ja5 (lab key:ByteArray) (ls:List ByteArray) (O:List (ByteArray × Zd)) (k:Nat):(Zcc lab key ls (O.take k)).length<=(Zcc lab key ls O).length:=by
 have:Zcc lab key ls O=Zcc lab key ls (O.take k)++Zcc lab key ls (O.drop k):=by
  unfold Zcc;rw [<- List.flatMap_append,List.take_append_drop]
 rw [this,List.length_append];omega
theorem Ja6 {lab key:ByteArray} {ns:List Zj} {j:Nat} {n:Zj} (h:ns[j]?=some n) (k:Nat):(Jw lab key (ns.take j)).length+(Zcc lab key n.labels (n.props.take k)).length<=(Jw lab key ns).length:=by
 have h1:Jw lab key ns=Jw lab key (ns.take (j+1))++Jw lab key (ns.drop (j+1)):=by
  unfold Jw;rw [<- List.flatMap_append,List.take_append_drop]
 rw [h1,Ztu h]
 have:=Ja5 lab key n.labels n.props k
 simp only [List.length_append];omega
structure Jev (B:Nat) (w E:World) (ts:List Zd) (v:Value) (xs:List Zr4) (wr:World):Prop where
 o:Jb 88 6 Zl6 E.heap.size wr v xs
 l:xs.length=ts.length
 i:∀ (k:Nat) u y,ts[k]?=some u->xs[k]?=some y->Zxx B w u y
 b:Below E.heap.size E wr
theorem Jev.more {B:Nat} {w E wr wr':World} {ts:List Zd} {v v':Value} {xs:List Zr4} {t:Zd} {x:Zr4} (h:Jev B w E ts v xs wr) (o:Jb 88 6 Zl6 E.heap.size wr' v' (xs++[x])) (N:Zxx B w t x) (b:Below E.heap.size E wr'):Jev B w E (ts++[t]) v' (xs++[x]) wr':=by
 refine ⟨o,by rw [List.length_append,List.length_append,h.l];rfl,fun k u y D hy=>?_,b⟩
 have hl:=h.l
 by_cases hk:k<ts.length
 ·rw [List.getElem?_append_left hk] at D
  rw [List.getElem?_append_left (by omega)] at hy
  exact h.i k u y D hy
 ·rw [List.getElem?_append_right (by omega)] at D
  rw [List.getElem?_append_right (by omega)] at hy
  have e1:k - ts.length=0:=by
   have:=(List.getElem?_eq_some_iff.1 D).1;simp at this;omega
  have e2:k - xs.length=0:=by omega
  rw [e1] at D;rw [e2] at hy
  simp only [List.getElem?_cons_zero,Option.some.injEq] at D hy
  subst D hy
  exact N
set_option maxRecDepth 100000 in
set_option maxHeartbeats 8000000 in
theorem Zp5 (g:Zx) (lab key:ByteArray) (v:Value) (B:Nat) (w:World) (hB:B<=w.heap.size) (h:Zp B w v g) (g9:g.nodes.length<=100) (f2:∀ n ∈ g.nodes,∀ q ∈ n.props,Zeh q.2) (f1:(Jw lab key g.nodes).length<=100000) :
  Calls Tryz.prog 50 #[v,.string lab,.string key] w fun e w'=>e=.returned (.agg #[.string lab,.string key,.int .i64 ((Jw lab key g.nodes).length:Int),.int .i64 ((Zih (Jw lab key g.nodes)).length:Int)])/\Below w.heap.size w w':=by
 have f8:=Za f2
 have b7:=Za f1
 obtain ⟨na,nc,ra,rc,rfl,hn,hr⟩:=h
 obtain ⟨xs,c7,f3,g8⟩:=Zk6 hn
 obtain ⟨xa,xc,b0,g2,i5,c5⟩:=g8
 have f6:=Za c5
 have a5:=Za (And.intro c7 f3)
 obtain ⟨nn,a1⟩:∃ n,g.nn=n:=⟨_,rfl⟩
 obtain ⟨nr,Y⟩:∃ n,g.nr=n:=⟨_,rfl⟩
 obtain ⟨m2,hm2⟩:∃ n,g.rels.length=n:=⟨_,rfl⟩
 obtain ⟨m,hm⟩:∃ n,g.nodes.length=n:=⟨_,rfl⟩
 have HM:=Za hm
 rw [a1,Y,hm2,hm]
 rw [hm] at g9 b0
 obtain ⟨rfl,e2,rfl⟩:na=xa/\m=xs.length/\nc=xc:=by injection b0 with a b c;exact ⟨a,b,c⟩
 have d5:=Za e2
 rw [<- e2] at g2
 clear hn hr c7 f3 c5 a1 Y hm2 hm b0 e2 f2 f1
 obtain ⟨W1,X⟩:∃ W1,w.alloc (.cells #[.slice na m nc,.slice ra m2 rc,.int .i64 nn,.int .i64 nr] 25)=W1:=⟨_,rfl⟩
 have r1:Rec W1 w.heap.size #[.slice na m nc,.slice ra m2 rc,.int .i64 nn,.int .i64 nr] 25:=by rw [<- X];exact Zk _ _ _
 have b1:Below w.heap.size w W1:=by rw [<- X];exact (Below.refl _ _).alloc (Nat.le_refl _) _
 have a7:=Za X
 have f4:=Za b1
 have a9:=Za r1
 clear X b1 r1
 go_enter Tryz.func50,Tryz.ntmps50
 go_upto_region 1 with fail
 try rw [a7.out]
 obtain ⟨E,Q⟩:∃ W,W1.alloc (.cells #[.string { data:=#[] },.string { data:=#[] },.int .i64 0,.int .i64 0] 66)=W:=⟨_,rfl⟩
 have P:W1.heap.size=w.heap.size+1:=by rw [<- a7.out];simp
 have r2:Rec E (w.heap.size+1) #[.string { data:=#[] },.string { data:=#[] },.int .i64 0,.int .i64 0] 66:=by rw [<- Q,<- P];exact Zk _ _ _
 have b2:Below W1.heap.size W1 E:=by rw [<- Q];exact Zc _ _
 have g3:=Za r2
 have U:=Za (a9.out.below b2 a9.out.lt)
 have c3:=Za (Below.on f4.out b2)
 have b6:E.heap.size=w.heap.size+2:=by rw [<- Q];simp [P]
 have g5:=Za b6
 rw [Q]
 clear Q r2 b2 P b6 a9 f4 a7
 go_wp2_with fail
 go_loopw [8,7] (fun i o wr=>∃ (j:Nat) (a:Option Addr) (c l:Nat) (I:List Zr4),j<=m/\i=.int .i64 j/\o=.slice a l c/\Jev B w E (Jw lab key (g.nodes.take j)) o I wr) (fun i _ _=>m - (intOf i).toNat)
 case atStart=>exact ⟨0,none,0,0,[],Nat.zero_le _,rfl,rfl,Jo _ _ _ _ _,rfl,fun k u y h=>by simp [Jw] at h,Below.refl _ _⟩
 case round =>
  obtain ⟨j,oa,oc,ol,I,hj,rfl,rfl,T⟩:=hrel
  have f:=Za T
  have c0:=(U.out.below T.b U.out.lt).cell 0 rfl
  obtain ⟨wj,h6⟩:∃ W,W=wr:=⟨_,rfl⟩
  subst h6
  by_cases f5:j<m
  ·have d6:(j:Int)<m:=by omega
   have f0:j<xs.length:=by have:=d5.out;omega
   obtain ⟨n,hn⟩:∃ n,g.nodes[j]?=some n:=⟨_,List.getElem?_eq_getElem (by have:=a5.out.1;omega)⟩
   obtain ⟨⟨xi,⟨la,ln,lc⟩,⟨pa,pn,pc⟩⟩,N⟩:∃ x,xs[j]?=some x:=⟨_,List.getElem?_eq_getElem f0⟩
   obtain ⟨-,a2,R,b8,c1⟩:=a5.out.2 j n _ hn N
   simp only at a2 R b8 c1
   subst a2
   have d8:Zal 1 Zap B w (.slice la n.labels.length lc) n.labels:=Zie b8 R
   obtain ⟨zs,d0,c2,g1⟩:=Zxy c1
   obtain ⟨za,zc,e0,P,b6,d3⟩:=g1
   obtain ⟨rfl,b9,rfl⟩:pa=za/\pn=zs.length/\pc=zc:=by injection e0 with a b c;exact ⟨a,b,c⟩
   rw [<- b9] at P
   have K:=Za (And.intro d0 (And.intro c2 b9))
   have h0:=Za d3
   have g0:=Za d8
   obtain ⟨bl,off,rfl,c8,hc⟩:=f6.out.resolve_left (by intro e;rw [e] at N;simp at N)
   have HD:Hid (∀ W,Below w.heap.size w W->W.cell? ⟨bl,off+j*3+1,none⟩=some (.slice la n.labels.length lc)/\W.cell? ⟨bl,off+j*3+2,none⟩=some (.slice pa pn pc)):=fun W hb=>⟨((hb.mono hB).cell (p:=⟨bl,off+j*3+1,none⟩) c8).trans (hc j _ N 1 _ rfl),((hb.mono hB).cell (p:=⟨bl,off+j*3+2,none⟩) c8).trans (hc j _ N 2 _ rfl)⟩
   have i2:=Za (List.mem_of_getElem? hn)
   have d9:=Za (Ztu (lab:=lab) (key:=key) hn)
   have e9:Hid (∀ k,(Jw lab key (g.nodes.take j)).length+(Zcc lab key n.labels (n.props.take k)).length<=100000):=fun k=>Nat.le_trans (Ja6 hn k) b7.out
   obtain ⟨V0,e5⟩:∃ V,Jw lab key (g.nodes.take j)=V:=⟨_,rfl⟩
   rw [e5] at f d9 e9
   clear T e5 f0 hn N R b8 c1 d0 c2 e0 d3 d8 hc b9
   go_wp2_with fail
   go_loopw [9,7] (fun i o wr=>∃ (k:Nat) (a:Option Addr) (c l:Nat) (I:List Zr4),k<=pn/\i=.int .i64 k/\o=.slice a l c/\Jev B w E (V0++Zcc lab key n.labels (n.props.take k)) o I wr) (fun i _ _=>pn - (intOf i).toNat)
   case atStart=>exact ⟨0,_,_,_,I,Nat.zero_le _,rfl,rfl,by rw [List.take_zero];simpa [Zcc] using f.out⟩
   case round =>
    clear f c0
    obtain ⟨k,qa,qc,ql,I,hk,rfl,rfl,T⟩:=hrel
    have f:=Za T
    have F:=Za (Below.on c3.out T.b)
    have c0:=(U.out.below T.b U.out.lt).cell 0 rfl
    have d1:=(HD.out wr F.out).1
    have d2:=(HD.out wr F.out).2
    by_cases hlk:k<pn
    ·have c4:(k:Int)<pn:=by omega
     obtain ⟨q,hq⟩:∃ q,n.props[k]?=some q:=⟨_,List.getElem?_eq_getElem (by have:=K.out.1;have:=K.out.2.2;omega)⟩
     obtain ⟨z,H⟩:∃ z,zs[k]?=some z:=⟨_,List.getElem?_eq_getElem (by have:=K.out.2.2;omega)⟩
     have e4:=K.out.2.1 k q z hq H
     have e7:=Za (Ja4 (lab:=lab) (key:=key) (ls:=n.labels) hq)
     obtain ⟨zk,z0,z1,z2,z3,⟨k1,k2,k3⟩,⟨l1,l2,l3⟩⟩:=z
     have a8:=Za e4
     obtain ⟨bp,op,rfl,G,A⟩:=h0.out.resolve_left (by intro e;rw [e] at H;simp at H)
     have d:Below B w wr:=F.out.mono hB
     have p0:=(d.cell (p:=⟨bp,op+k*7+0,none⟩) G).trans (A k _ H 0 _ rfl)
     have p1:=(d.cell (p:=⟨bp,op+k*7+1,none⟩) G).trans (A k _ H 1 _ rfl)
     have p2:=(d.cell (p:=⟨bp,op+k*7+2,none⟩) G).trans (A k _ H 2 _ rfl)
     have p3:=(d.cell (p:=⟨bp,op+k*7+3,none⟩) G).trans (A k _ H 3 _ rfl)
     have p4:=(d.cell (p:=⟨bp,op+k*7+4,none⟩) G).trans (A k _ H 4 _ rfl)
     have p5:=(d.cell (p:=⟨bp,op+k*7+5,none⟩) G).trans (A k _ H 5 _ rfl)
     have p6:=(d.cell (p:=⟨bp,op+k*7+6,none⟩) G).trans (A k _ H 6 _ rfl)
     simp only [slV,Nat.add_zero] at p0 p1 p2 p3 p4 p5 p6
     have L:Hid (Calls Tryz.prog 49 #[.slice la n.labels.length lc,.string lab] wr fun e w'=>e=.returned (.bool (Zdj lab n.labels))/\w'=wr):=Znn n.labels lab _ B wr (g0.out.keep d)
     have s:ql=I.length:=by
      obtain ⟨a,c,e⟩:=f.out.o.slice
      injection e with _ e2 _
     have e8:=Za s
     have i0:ql<=100000:=by
      have h1:=e9.out k
      have h2:=f.out.l
      rw [List.length_append] at h2
      omega
     clear T hq H e4 A d s
     by_cases hw:Zj5 lab key n.labels q=true
     ·have M:=hw
      unfold Zj5 at M
      simp only [Bool.and_eq_true,decide_eq_true_eq] at M
      have d4:Zdj lab n.labels=true:=M.1
      have g7:zk=key:=a8.out.1.trans M.2
      subst g7
      rw [d4] at L
      have C:Hid (V0++Zcc lab zk n.labels (n.props.take (k+1))=(V0++Zcc lab zk n.labels (n.props.take k))++[q.2]):=by show _=_;rw [e7.out,if_pos hw,List.append_assoc]
      obtain ⟨v',W',e1,e2,e3,_⟩:=Jd (t:=86) (ty:=86) (c:=1) (bl:=wr.heap.size) (off:=0) (x:=((z0,z1,z2,z3,(k1,k2,k3),(l1,l2,l3)):Zr4)) Jcr (fun _=>rfl) Zxw (f.out.o.below (Zc wr (.cells #[.int .i64 z0,.bool z1,.int .i64 z2,.string z3,.slice k1 k2 k3,.slice l1 l2 l3] 88))) (fun jj u D=>by
       rw [Nat.zero_add];exact Zh _ _ _ _ _ (by simpa [Zl6,slV] using D)) (by have:=e8.out;omega) (by have:=f.out.b.size;simp;omega)
      obtain ⟨a6,c6,g6⟩:=e2.slice
      subst g6
      have e6:Hid (Jev B w E ((V0++Zcc lab zk n.labels (n.props.take k))++[q.2]) _ _ W'):=f.out.more e2 a8.out.2 ((f.out.b.trans ((Zc wr _).mono f.out.b.size)).trans e3)
      have c9:(I++[((z0,z1,z2,z3,(k1,k2,k3),(l1,l2,l3)):Zr4)]).length=ql+1:=by rw [List.length_append];have:=e8.out;simp;omega
      rw [c9] at e1 e6
      clear e2 e3 c9 hw M d4
      go_wp2_with (first | (go_at_call 49;refine L.out.mono ?_;rintro e _ ⟨rfl,rfl⟩) | (at_builtin;refine Lib.wpList_append_run _ rfl _ _ _ _ rfl _ _ rfl rfl _ _ e1 ?_))
      go_roundw
      case rel=>exact ⟨k+1,_,_,_,_,by omega,by go_num,rfl,by rw [C.out];exact e6.out⟩
      case measure=>simp [intOf];omega
     ·have C:Hid (V0++Zcc lab key n.labels (n.props.take (k+1))=V0++Zcc lab key n.labels (n.props.take k)):=by show _=_;rw [e7.out,if_neg hw,List.append_nil]
      obtain ⟨hb,b4⟩:∃ b,Zdj lab n.labels=b:=⟨_,rfl⟩
      rw [b4] at L
      have b3:¬ (hb=true/\zk=key):=fun h=>hw (by unfold Zj5;rw [b4,h.1,<- a8.out.1];simp [h.2])
      clear hw b4
      cases hb with
      | true =>
       have h8:=Zfz (fun e=>b3 ⟨rfl,e⟩:¬ zk=key)
       clear b3
       go_wp2_with (go_at_call 49;refine L.out.mono ?_;rintro e _ ⟨rfl,rfl⟩)
       go_roundw
       case rel=>exact ⟨k+1,_,_,_,I,by omega,by go_num,rfl,by rw [C.out];exact f.out⟩
       case measure=>simp [intOf];omega
      | false =>
       clear b3
       go_wp2_with (go_at_call 49;refine L.out.mono ?_;rintro e _ ⟨rfl,rfl⟩)
       go_roundw
       case rel=>exact ⟨k+1,_,_,_,I,by omega,by go_num,rfl,by rw [C.out];exact f.out⟩
       case measure=>simp [intOf];omega
    ·have c4:¬ (k:Int)<pn:=by omega
     have C:Hid (Jw lab key (g.nodes.take (j+1))=V0++Zcc lab key n.labels (n.props.take k)):=by
      show _=_
      rw [d9.out,List.take_of_length_le (by have:=K.out.1;have:=K.out.2.2;omega)]
     clear T
     go_wp2_with fail
     go_roundw
     case rel=>exact ⟨j+1,_,_,_,I,by omega,by go_num,rfl,by rw [C.out];exact f.out⟩
     case measure=>simp [intOf];omega
  ·have d6:¬ (j:Int)<m:=by omega
   have C:Hid (Jw lab key (g.nodes.take j)=Jw lab key g.nodes):=by show _=_;rw [List.take_of_length_le (by have:=a5.out.1;have:=d5.out;omega)]
   rw [C.out] at f
   have F:=Za (Below.on c3.out f.out.b)
   have a0:∀ t ∈ Jw lab key g.nodes,Zeh t:=fun t ht=>by
    obtain ⟨n,hn,ht⟩:=List.mem_flatMap.1 ht
    obtain ⟨q,hq,ht⟩:=List.mem_flatMap.1 ht
    split at ht
    ·simp only [List.mem_singleton] at ht;subst ht;exact f8.out n hn q hq
    ·simp at ht
   have s:ol=I.length:=by
    obtain ⟨a,c,e⟩:=f.out.o.slice
    injection e with _ e2 _
   have d:Below B w wj:=F.out.mono hB
   have a3:Hid (Calls Tryz.prog 106 #[.slice oa ol oc] wj fun e w'=>∃ v' zs,e=.returned v'/\Jb 88 6 Zl6 wj.heap.size w' v' zs/\zs.length=(Zih (Jw lab key g.nodes)).length/\Below wj.heap.size wj w') :=
    Zr5 I _ _ B wj.heap.size wj (Nat.le_trans hB F.out.size) (Nat.le_refl _) (Jb.srow (enc:=Zl6) (k:=6) (fun _=>rfl) f.out.o) f.out.l (fun k t x ht N=>Zb6.below d (f.out.i k t x ht N)) b7.out a0
   have g4:Hid ((Jw lab key g.nodes).length=ol):=by show _=_;rw [<- f.out.l,<- s]
   obtain ⟨OV,a4⟩:∃ n,(Zih (Jw lab key g.nodes)).length=n:=⟨_,rfl⟩
   have h9:OV<=100000:=by
    have:=Ztx (Jw lab key g.nodes) _ (Nat.le_refl _)
    rw [List.take_length] at this
    have:=b7.out
    omega
   rw [a4] at a3
   have h4:=Za a4
   have R2:=g3.out.below f.out.b (by have:=g5.out;omega)
   have d7:=Za R2
   clear a0 s d a4 T R2
   go_upto_region 10 with fail
   clear c0
   go_wp2_with (go_at_call 106;refine a3.out.mono ?_;rintro e w8 ⟨v',zs,rfl,ho,H,b5⟩;obtain ⟨za,zc,rfl⟩:=ho.slice;rw [H];have f9:=Za b5;have S:=d7.out.below b5 d7.out.lt;have q0:=S.cell 0 rfl;have q1:=S.cell 1 rfl;have q2:=S.cell 2 rfl;have q3:=S.cell 3 rfl;have i1:=S.z 0;have i3:=S.z 1;have i4:=S.z 2;have h7:=S.z 3;have h3:=Za S;clear ho H b5 S;try dsimp only)
   have hp:=Jm (Jm (Jm (Jm (Zev h3.out) 0 (.string lab)) 1 (.string key)) 2 (.int .i64 (ol:Int))) 3 (.int .i64 (OV:Int))
   have h5:Rec _ (w.heap.size+1) #[.string lab,.string key,.int .i64 (ol:Int),.int .i64 (OV:Int)] 66:=hp.r
   have f7:=hp.below
   refine bodyPost_ret (results_cell_row rfl _ _ (w.heap.size+1) 66 _ (0,0) _ rfl h5 Tryz.underlying66 rfl (by kernel_rfl)) rfl ⟨?_,?_⟩
   ·rw [g4.out,h4.out]
   ·exact (Below.on F.out f9.out).trans (f7.mono (Nat.le_succ _))
end Go.Proofs.YthfilnflgahcjaaGreatDoor

