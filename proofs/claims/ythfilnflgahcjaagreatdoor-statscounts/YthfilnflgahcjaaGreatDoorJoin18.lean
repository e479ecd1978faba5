/- A graph: what it is, and where it lies. Equal: values that may not be are held for nothing. List, and Less at every two values. Storable, the program's and the document's. value.Storable. A map of texts that were met; rows of copies that grow. Names that rise: the program's word. -/
import Derived.Test.YthfilnflgahcjaaGreatDoorJoin2
import Derived.Test.YthfilnflgahcjaaGreatDoorJoin16
import Derived.Deep.QuietTactic
import Derived.BigQuiet
import Derived.Deep.RegionWith
import Derived.StringKeys
import Derived.MapKept
import Derived.Orders
import Derived.WalkKit
import Derived.Below
import Derived.Test.YthfilnflgahcjaaGreatDoorJoin1
import Derived.Lib.ValidLaws
import Derived.Test.YthfilnflgahcjaaGreatDoorJoin15
import Derived.Laws.IdiomCopy
import Derived.Laws.MakeOwn
import Derived.Test.YthfilnflgahcjaaGreatDoorJoin7
namespace Go.Proofs.YthfilnflgahcjaaGreatDoor
open Go.RowKit Go.Shelf
set_option linter.all false
structure Zj where
 id:Int
 labels:List ByteArray
 props:List (ByteArray × Zd)
structure Zbr where
 id:Int
 fr:Int
 tt:Int
 type:ByteArray
 props:List (ByteArray × Zd)
structure Zx where
 nodes:List Zj
 rels:List Zbr
 nn:Int
 nr:Int
def Zho {α:Type} (k:Nat) (At:World->Nat->Nat->α->Prop) (B:Nat) (w:World) (v:Value) (xs:List α):Prop :=
 ∃ a c,v=.slice a xs.length c/\xs.length<=c/\c<=9223372036854775807/\(xs=[]\/∃ bl off,a=some ⟨bl,off,none⟩/\bl<B/\∀ i x,xs[i]?=some x->At w bl (off+i*k) x)
theorem Zho.turn {α:Type} {k:Nat} {At f:World->Nat->Nat->α->Prop} {B:Nat} {w w':World} {v:Value} {xs:List α} (h:Zho k At B w v xs) (t:∀ bl off x,bl<B->x ∈ xs->At w bl off x->f w' bl off x):Zho k f B w' v xs:=by
 obtain ⟨a,c,e,m,d,s⟩:=h
 exact ⟨a,c,e,m,d,s.imp id fun ⟨bl,off,e,hl,q⟩=>⟨bl,off,e,hl,fun i x o=>t _ _ _ hl (List.mem_of_getElem? o) (q i x o)⟩⟩
def Zlj (B:Nat) (w:World) (bl off:Nat) (n:Zj):Prop :=
 ∃ la lc b,(w.cell? ⟨bl,off,none⟩=some (.int .i64 n.id)/\w.cell? ⟨bl,off+1,none⟩=some (.slice la n.labels.length lc)/\w.cell? ⟨bl,off+2,none⟩=some b)/\(n.labels.length<=lc/\lc<=9223372036854775807)/\Zbh B w la n.labels/\Zbq B w b n.props
def Zsd (B:Nat) (w:World) (bl off:Nat) (r:Zbr):Prop :=
 ∃ b,(w.cell? ⟨bl,off,none⟩=some (.int .i64 r.id)/\w.cell? ⟨bl,off+1,none⟩=some (.int .i64 r.fr)/\w.cell? ⟨bl,off+2,none⟩=some (.int .i64 r.tt)/\w.cell? ⟨bl,off+3,none⟩=some (.string r.type)/\w.cell? ⟨bl,off+4,none⟩=some b)/\r.type.size<=maxLen/\Zbq B w b r.props
theorem Zlj.below {B:Nat} {w w':World} (h:Below B w w') {bl off:Nat} (hl:bl<B) {n:Zj} (hn:Zlj B w bl off n):Zlj B w' bl off n:=by
 obtain ⟨la,lc,b,⟨c0,c1,c2⟩,j,hk,l⟩:=hn
 exact ⟨la,lc,b,⟨(h.cell (p:=⟨bl,off,none⟩) hl).trans c0,(h.cell (p:=⟨bl,off+1,none⟩) hl).trans c1,(h.cell (p:=⟨bl,off+2,none⟩) hl).trans c2⟩,j,hk.below h,l.below h⟩
theorem Zsd.below {B:Nat} {w w':World} (h:Below B w w') {bl off:Nat} (hl:bl<B) {n:Zbr} (hn:Zsd B w bl off n):Zsd B w' bl off n:=by
 obtain ⟨b,⟨c0,c1,c2,c3,c4⟩,j,l⟩:=hn
 exact ⟨b,⟨(h.cell (p:=⟨bl,off,none⟩) hl).trans c0,(h.cell (p:=⟨bl,off+1,none⟩) hl).trans c1,(h.cell (p:=⟨bl,off+2,none⟩) hl).trans c2,(h.cell (p:=⟨bl,off+3,none⟩) hl).trans c3,(h.cell (p:=⟨bl,off+4,none⟩) hl).trans c4⟩,j,l.below h⟩
def Zfc (B:Nat) (w:World) (v:Value) (ns:List Zj):Prop:=Zho 3 (Zlj B) B w v ns
def Zgd (B:Nat) (w:World) (v:Value) (rs:List Zbr):Prop:=Zho 5 (Zsd B) B w v rs
theorem Zfc.below {B:Nat} {w w':World} (h:Below B w w') {v:Value} {ns:List Zj} (hn:Zfc B w v ns):Zfc B w' v ns:=hn.turn fun _ _ _ hl _ d=>d.below h hl
theorem Zgd.below {B:Nat} {w w':World} (h:Below B w w') {v:Value} {ns:List Zbr} (hn:Zgd B w v ns):Zgd B w' v ns:=hn.turn fun _ _ _ hl _ d=>d.below h hl
def Zp (B:Nat) (w:World) (v:Value) (g:Zx):Prop :=
 ∃ na nc ra rc,v=.agg #[.slice na g.nodes.length nc,.slice ra g.rels.length rc,.int .i64 g.nn,.int .i64 g.nr]/\Zfc B w (.slice na g.nodes.length nc) g.nodes/\Zgd B w (.slice ra g.rels.length rc) g.rels
theorem Zp.below {B:Nat} {w w':World} (h:Below B w w') {v:Value} {g:Zx} (hn:Zp B w v g):Zp B w' v g:=by
 obtain ⟨na,nc,ra,rc,e,m,d⟩:=hn
 exact ⟨na,nc,ra,rc,e,m.below h,d.below h⟩
end Go.Proofs.YthfilnflgahcjaaGreatDoor

namespace Go.Proofs.YthfilnflgahcjaaGreatDoor
open Go.RowKit Go.Shelf
set_option linter.all false
def Zs4 (t:Zd):Prop:=t.height<100000000/\bytesOf (t.pre 1)<4611686018427387904
end Go.Proofs.YthfilnflgahcjaaGreatDoor

namespace Go.Proofs.YthfilnflgahcjaaGreatDoor
open Go.RowKit Go.Shelf
set_option linter.all false
def Zdp (k:Int):Bool:=k==1||k==2||k==3
theorem Zp1 (k:Int) (w:World):Calls Tryz.prog 213 #[.int .i64 k] w fun e w'=>e=.returned (.bool (Zdp k))/\w'=w:=by
 go_enter Tryz.func213,Tryz.ntmps213
 by_cases h1:k=1
 ·subst h1;go_wp2_with fail;go_ret;exact ⟨rfl,rfl⟩
 by_cases h2:k=2
 ·subst h2;go_wp2_with fail;go_ret;exact ⟨rfl,rfl⟩
 go_wp2_with fail
 go_ret
 have e1:(k==1)=false:=by simpa using h1
 have e2:(k==2)=false:=by simpa using h2
 refine ⟨?_,rfl⟩
 unfold Zdp
 rw [e1,e2]
 rfl
end Go.Proofs.YthfilnflgahcjaaGreatDoor

namespace Go.Proofs.YthfilnflgahcjaaGreatDoor
open Go.RowKit Go.Shelf
set_option linter.all false
def Zhg (ts:List Zd):Int:=match ts with | []=>0 | t::_=>t.kind
def Zsb (T:Zd):Bool:=if T.kind=4 then T.kids.all fun t=>Zdp t.kind&&(t.kind==Zhg T.kids) else Zdp T.kind
theorem Zoh {p:Zd->Bool} {ts:List Zd} {j:Nat} {t:Zd} (h:(ts.take j).all p=true) (a:ts[j]?=some t) (ht:p t=true):(ts.take (j+1)).all p=true:=by
 rw [List.take_add_one,a,List.all_append,h];simp [ht]
theorem Zqg {p:Zd->Bool} {ts:List Zd} {j:Nat} {t:Zd} (a:ts[j]?=some t) (ht:p t=false):ts.all p=false:=by
 rw [List.all_eq_false];exact ⟨t,List.mem_of_getElem? a,by simp [ht]⟩
theorem KidsLie.first {B bl off:Nat} {w:World} {ts:List Zd} (h:KidsLie B w bl off ts) (b:0<ts.length):w.cell? ⟨bl,off,none⟩=some (.int .i64 (Zhg ts)):=by
 obtain ⟨⟨p0,p1,p2,p3,d,c⟩,a⟩:∃ t,ts[0]?=some t:=⟨_,List.getElem?_eq_getElem b⟩
 obtain ⟨_,_,_,_,⟨c0,_⟩,_⟩:=h.cells a
 cases ts with
 | nil=>simp at b
 | cons t r =>
  simp at a;subst a
  simpa [Zhg,Zd.kind] using c0
end Go.Proofs.YthfilnflgahcjaaGreatDoor

namespace Go.Proofs.YthfilnflgahcjaaGreatDoor
open Go.RowKit Go.Shelf
set_option linter.all false
set_option maxRecDepth 100000 in
set_option maxHeartbeats 4000000 in
theorem Zp0 (T:Zd) (B:Nat) (v:Value) (w:World) (hB:B<=w.heap.size) (hv:Zb6 B w v T) (hT:Zn5 w) (hm:Zs4 T):Calls Tryz.prog 154 #[v] w fun e w'=>e=.returned (.bool (decide (Zbg T=0)&&Zsb T))/\Below w.heap.size w w':=by
 obtain ⟨k,x,n,s,ks,ts⟩:=T
 have Q:=hv
 simp only [Zb6] at hv
 obtain ⟨ka,kc,la,lc,rfl,⟨b0,a9,b3,b1,a8⟩,hk,ht⟩:=hv
 unfold maxLen at a8
 obtain ⟨h,o⟩:∃ h,w.alloc (.cells #[.int .i64 k,.bool x,.int .i64 n,.string s,.slice ka ks.length kc,.slice la ts.length lc] 88)=h:=⟨_,rfl⟩
 have l:Below w.heap.size w h:=o▸(Below.refl _ _).alloc (Nat.le_refl _) _
 have F:h.heap[w.heap.size]?=some (.cells #[.int .i64 k,.bool x,.int .i64 n,.string s,.slice ka ks.length kc,.slice la ts.length lc] 88 (0,0)):=o▸World.alloc_heap_new _ _
 have N:w.heap.size<h.heap.size:=(Array.getElem?_eq_some_iff.1 F).1
 have HX:Hid (∀ W,Below h.heap.size h W->Below w.heap.size w W/\W.cell? ⟨w.heap.size,0,none⟩=some (.int .i64 k)/\W.cell? ⟨w.heap.size,5,none⟩=some (.slice la ts.length lc)):=fun W hb=>by
  have e:=(hb.block _ N).trans F
  exact ⟨l.trans (hb.mono (by omega)),by unfold World.cell?;simp only [e];rfl,by unfold World.cell?;simp only [e];rfl⟩
 have HT:Hid (ts=[]\/∃ bl off,la=some ⟨bl,off,none⟩/\bl<B/\KidsLie B w bl off ts):=ht
 have A:=Za (Zlv _ _ h ((Q.below (l.mono hB)).mono (Nat.le_trans hB l.size)) (hT.below l) hm.1 hm.2)
 have P:=Za o
 obtain ⟨V,O⟩:∃ c,Zbg (.mk k x n s ks ts)=c:=⟨_,rfl⟩
 rw [O] at A |-
 have HS:Hid (Zsb (.mk k x n s ks ts)=(if k=4 then ts.all fun t=>Zdp t.kind&&(t.kind==Zhg ts) else Zdp k)):=rfl
 clear o F ht hk Q hT hm O
 go_enter Tryz.func154,Tryz.ntmps154
 go_wp2_with fail
 rw [P.out]
 refine A.out.mono ?_
 rintro e w2 ⟨rfl,I⟩
 have a2:=Za I
 obtain ⟨y,q0,q5⟩:=HX.out w2 I
 have u:=Za y
 clear I y P A
 by_cases hc:V=0
 ·have a7:(V != 0)=false:=by simp [hc]
  have K:Hid (decide (V=0)=true):=decide_eq_true hc
  clear hc
  by_cases k4:k=4
  ·have a1:(k != 4)=false:=by simp [k4]
   have g:Hid (Zsb (.mk k x n s ks ts)=ts.all fun t=>Zdp t.kind&&(t.kind==Zhg ts)):=HS.out.trans (if_pos k4)
   clear HS k4
   go_wp2_with fail
   clear q0 q5
   go_loopw [17] (fun i wr=>∃ j:Nat,j<=ts.length/\i=.int .i64 j/\Below h.heap.size h wr/\(ts.take j).all (fun t=>Zdp t.kind&&(t.kind==Zhg ts))=true) (fun i _=>ts.length - (intOf i).toNat)
   case atStart=>exact ⟨0,Nat.zero_le _,rfl,a2.out,rfl⟩
   case round =>
    obtain ⟨j,hj,rfl,E,R⟩:=hrel
    have G:=Za E
    have Y:=Za R
    obtain ⟨a0,q0,q5⟩:=HX.out wr E
    have a:=Za a0
    clear E a0 R
    by_cases hlt:j<ts.length
    ·obtain ⟨bl,off,rfl,a3,X⟩:=HT.out.resolve_left (by intro e;subst e;simp at hlt)
     obtain ⟨⟨p0,p1,p2,p3,p4,p5⟩,hx⟩:∃ t,ts[j]?=some t:=⟨_,List.getElem?_eq_getElem hlt⟩
     have H:=X.below (a.out.mono hB) a3
     obtain ⟨ja,jc,jl,jd,⟨c0,c1,c2,c3,c4,c5⟩,_⟩:=H.cells hx
     have d0:=H.first (by omega)
     have D:=Za hx
     obtain ⟨M,C⟩:∃ f,Zhg ts=f:=⟨_,rfl⟩
     rw [C] at d0
     have S:=Za C
     have b2:(0:Int)<ts.length:=by omega
     have a4:bl<wr.heap.size:=by have:=a.out.size;omega
     have a5:w.heap.size<wr.heap.size:=by have:=G.out.size;omega
     obtain ⟨pp,d⟩:∃ b,Zdp p0=b:=⟨_,rfl⟩
     have q:=Za d
     have U:Hid (∀ W,Calls Tryz.prog 213 #[.int .i64 p0] W fun e w'=>e=.returned (.bool pp)/\w'=W):=fun W=>by
      rw [<- d];exact Zp1 _ _
     clear X H hx C d
     obtain ⟨L,r⟩:∃ L,wr.alloc (.cells #[.int .i64 p0,.bool p1,.int .i64 p2,.string p3,.slice ja p4.length jc,.slice jl p5.length jd] 88)=L:=⟨_,rfl⟩
     have m:Below wr.heap.size wr L:=r▸(Below.refl _ _).alloc (Nat.le_refl _) _
     have z0:L.cell? ⟨wr.heap.size,0,none⟩=some (.int .i64 p0):=r▸Zh _ _ _ _ _ rfl
     have z5:L.cell? ⟨w.heap.size,5,none⟩=some (.slice (some ⟨bl,off,none⟩) ts.length lc):=(m.cell (p:=⟨w.heap.size,5,none⟩) a5).trans q5
     have zd:L.cell? ⟨bl,off,none⟩=some (.int .i64 M):=(m.cell (p:=⟨bl,off,none⟩) a4).trans d0
     have z:=Za m
     have a6:=Za r
     clear m r
     go_wp2_with fail
     rw [a6.out]
     clear c0 c1 c2 c3 c4 c5 q0 q5 d0
     cases pp with
     | true =>
      go_quiet ((go_at_call 213;exact Calls.quiet_of_same (U.out _)))
      by_cases e:p0=M
      ·have e':(p0 != M)=false:=by simp [e]
       go_wp2_with fail
       go_roundw
       case rel=>exact ⟨j+1,by omega,by go_num,below_drewN (G.out.trans (z.out.mono G.out.size)) _,Zoh Y.out D.out (by rw [S.out];show (Zdp p0&&(p0==M))=true;rw [q.out];simp [e])⟩
       case measure=>simp [intOf];omega
      ·have e':(p0 != M)=true:=by simp [e]
       have HA:Hid ((ts.all fun t=>Zdp t.kind&&(t.kind==Zhg ts))=false):=Zqg D.out (by rw [S.out];simp [Zd.kind,e])
       go_wp2_with fail
       go_ret
       exact ⟨by rw [K.out,g.out,HA.out];rfl,below_drewN (a.out.trans (z.out.mono a.out.size)) _⟩
     | false =>
      have HA:Hid ((ts.all fun t=>Zdp t.kind&&(t.kind==Zhg ts))=false):=Zqg D.out (by simp [Zd.kind,q.out])
      go_quiet ((go_at_call 213;exact Calls.quiet_of_same (U.out _)))
      go_wp2_with fail
      go_ret
      exact ⟨by rw [K.out,g.out,HA.out];rfl,below_drewN (a.out.trans (z.out.mono a.out.size)) _⟩
    ·have HA:Hid ((ts.all fun t=>Zdp t.kind&&(t.kind==Zhg ts))=true):=by
      have:=Y.out
      rw [List.take_of_length_le (by omega)] at this
      exact this
     go_wp2_with fail
     go_ret
     exact ⟨by rw [K.out,g.out,HA.out];rfl,a.out⟩
  ·have a1:(k != 4)=true:=by simp [k4]
   have g:Hid (Zsb (.mk k x n s ks ts)=Zdp k):=HS.out.trans (if_neg k4)
   clear HS
   go_wp2_with fail
   refine (Zp1 _ _).mono ?_
   rintro e w3 ⟨rfl,rfl⟩
   obtain ⟨pp,d⟩:∃ b,Zdp k=b:=⟨_,rfl⟩
   rw [d]
   have q:=Za d
   clear d
   go_wp2_with fail
   go_ret
   exact ⟨by rw [K.out,g.out,q.out];rfl,u.out⟩
 ·have a7:(V != 0)=true:=by simp [hc]
  have K:Hid (decide (V=0)=false):=decide_eq_false hc
  clear hc
  go_wp2_with fail
  go_ret
  exact ⟨by rw [K.out];rfl,u.out⟩
end Go.Proofs.YthfilnflgahcjaaGreatDoor

namespace Go.Proofs.YthfilnflgahcjaaGreatDoor
open Go.RowKit Go.Shelf Go.WideShapes Go.Lib
set_option linter.all false
theorem Jdp (w:World):(zeroValue 164).run Tryz.prog w=.ok (.agg #[]) w:=by kernel_rfl
end Go.Proofs.YthfilnflgahcjaaGreatDoor

namespace Go.Proofs.YthfilnflgahcjaaGreatDoor
open Go.RowKit Go.Shelf
set_option linter.all false
attribute [local go_sem] Oper.semAt_some
def leqB (x s:ByteArray):Bool:=Op.bytesLess x.toList s.toList||x.toList==s.toList
def nrB (l:ByteArray):List ByteArray->Bool
 | []=>true
 | x::r=>Zfs x.data.toList&&(!leqB x l&&nrB x r)
theorem Jc0 {ks:List ByteArray} {j:Nat} {x l:ByteArray} (h:ks[j]?=some x):nrB l (ks.drop j)=(Zfs x.data.toList&&(!leqB x l&&nrB x (ks.drop (j+1)))):=by
 obtain ⟨hj,o⟩:=List.getElem?_eq_some_iff.1 h
 rw [List.drop_eq_getElem_cons hj,o,nrB]
set_option maxHeartbeats 1000000 in
theorem Jb5 (x:ByteArray) (w:World):Calls Tryz.prog 134 #[.string x] w fun e w'=>e=.returned (.string x)/\w'=w:=by
 go_enter Tryz.func134,Tryz.ntmps134
 go_wp2_with fail
 go_ret
 exact ⟨rfl,rfl⟩
set_option maxHeartbeats 1000000 in
theorem Jem (x:ByteArray) (v0 v1 v2 v3 v4 v5:Value) (w:World):Calls Tryz.prog 156 #[.agg #[.string x,v0,v1,v2,v3,v4,v5]] w fun e w'=>e=.returned (.string x)/\Below w.heap.size w w':=by
 go_enter Tryz.func156,Tryz.ntmps156
 go_upto_region 1 with fail
 generalize F:World.alloc _ _=W1
 have hr:=Zk w #[.string x,v0,v1,v2,v3,v4,v5] 90
 rw [F] at hr
 have a2:Hid (Below w.heap.size w W1):=by rw [<- F];exact (Below.refl _ _).alloc (Nat.le_refl _) _
 have q0:=hr.cell 0 rfl
 clear F hr
 go_wp2_with fail
 go_ret
 exact ⟨rfl,a2.out⟩
set_option maxRecDepth 100000 in
set_option maxHeartbeats 4000000 in
theorem Zy6 (ks:List ByteArray) (B:Nat) (ka:Option Addr) (kc:Nat) (w:World) (hB:B<=w.heap.size) (L:Env w) (hk:Zbh B w ka ks) (h1:ks.length<=kc) (h2:kc<=9223372036854775807) (T:∀ x ∈ ks,x.size<=140737488355328) :
  Calls Tryz.prog 133 #[.slice ka ks.length kc,.func (.func 134) #[] #[]] w fun e w'=>e=.returned (.bool (nrB ⟨#[]⟩ ks))/\Below w.heap.size w w':=by
 have HK:=Za hk
 have HS:=Za T
 have V:=Za L
 obtain ⟨n,hn⟩:∃ n,ks.length=n:=⟨_,rfl⟩
 have K:=Za hn
 rw [hn] at h1 |-
 obtain ⟨a,c⟩:∃ r,nrB ⟨#[]⟩ ks=r:=⟨_,rfl⟩
 have HR:=Za c
 rw [c]
 clear hk T hn c L
 go_enter Tryz.func133,Tryz.ntmps133
 go_wp2_with fail
 go_loopw [11,5] (fun i l wr=>∃ (j:Nat) (s:ByteArray),j<=n/\i=.int .i64 j/\l=.string s/\Below w.heap.size w wr/\nrB s (ks.drop j)=a) (fun i _ _=>n - (intOf i).toNat)
 case atStart=>exact ⟨0,_,Nat.zero_le _,rfl,rfl,Below.refl _ _,HR.out⟩
 case round =>
  obtain ⟨j,s,hj,rfl,rfl,t,u⟩:=hrel
  have f:=Za t
  have C:=Za u
  have a1:w.heap.size<=wr.heap.size:=t.size
  clear t u
  by_cases hlt:j<n
  ·have A:(j:Int)<n:=by omega
   obtain ⟨x,o⟩:∃ x,ks[j]?=some x:=⟨_,List.getElem?_eq_getElem (by have:=K.out;omega)⟩
   have HX:=Za o
   obtain ⟨bl,off,rfl,Q,S⟩:=HK.out.resolve_left (by intro e;rw [e] at o;simp at o)
   have cx:wr.cell? ⟨bl,off+j,none⟩=some (.string x):=by
    have:=(S j (by have:=K.out;omega)).1
    rw [List.getD_eq_getElem?_getD,o] at this
    exact (f.out.cell (p:=⟨bl,off+j,none⟩) (by show bl<w.heap.size;omega)).trans this
   have G:x.size<=140737488355328:=HS.out x (List.mem_of_getElem? o)
   have v:=Za (Znm x G wr (V.out.below f.out V.out.room))
   have D:=f
   clear S o
   obtain ⟨N,g⟩:∃ b,Zfs x.data.toList=b:=⟨_,rfl⟩
   rw [g] at v
   obtain ⟨lb,H⟩:∃ b,(Op.bytesLess x.toList s.toList||x.toList==s.toList)=b:=⟨_,rfl⟩
   have m:Hid (a=(N&&(!lb&&nrB x (ks.drop (j+1))))):=by
    show _=_
    rw [<- C.out,Jc0 HX.out,g]
    unfold leqB
    rw [H]
   clear g
   go_wp2_with fail
   refine (Jb5 x _).mono ?_
   rintro e w2 ⟨rfl,rfl⟩
   go_wp2_with fail
   refine v.out.mono ?_
   rintro e w3 ⟨rfl,z⟩
   have k:=Za (Zm D.out z)
   clear z
   cases N with
   | false =>
    have y:Hid (a=false):=m.out
    go_wp2_with fail
    go_ret
    exact ⟨by rw [y.out];rfl,k.out⟩
   | true =>
    cases lb with
    | true =>
     have y:Hid (a=false):=m.out
     go_wp2_with fail
     go_ret
     exact ⟨by rw [y.out];rfl,k.out⟩
    | false =>
     have E:Hid (nrB x (ks.drop (j+1))=a):=m.out.symm
     go_wp2_with fail
     go_roundw
     case rel=>exact ⟨j+1,x,by omega,by go_num,rfl,k.out,E.out⟩
     case measure=>simp [intOf];omega
  ·have y:Hid (a=true):=by
    show _=_
    rw [<- C.out,List.drop_of_length_le (by have:=K.out;simp;omega)];rfl
   have A:¬ (j:Int)<n:=by omega
   go_wp2_with fail
   go_ret
   exact ⟨by rw [y.out];rfl,f.out⟩
set_option maxRecDepth 100000 in
set_option maxHeartbeats 4000000 in
theorem Jb6 (ks:List (ByteArray × Zd)) (B:Nat) (ka:Option Addr) (kc:Nat) (w:World) (hB:B<=w.heap.size) (L:Env w) (hk:ks=[]\/∃ bl off,ka=some ⟨bl,off,none⟩/\bl<B/\∀ i q,ks[i]?=some q->Zii B w bl (off+i*7) q) (h1:ks.length<=kc) (h2:kc<=9223372036854775807) (T:∀ q ∈ ks,q.1.size<=140737488355328) :
  Calls Tryz.prog 155 #[.slice ka ks.length kc,.func (.func 156) #[] #[]] w fun e w'=>e=.returned (.bool (nrB ⟨#[]⟩ (ks.map Prod.fst)))/\Below w.heap.size w w':=by
 have HK:=Za hk
 have HS:=Za T
 have V:=Za L
 obtain ⟨n,hn⟩:∃ n,ks.length=n:=⟨_,rfl⟩
 have K:=Za hn
 rw [hn] at h1 |-
 obtain ⟨a,c⟩:∃ r,nrB ⟨#[]⟩ (ks.map Prod.fst)=r:=⟨_,rfl⟩
 have HR:=Za c
 rw [c]
 clear hk T hn c L
 go_enter Tryz.func155,Tryz.ntmps155
 go_wp2_with fail
 go_loopw [11,5] (fun i l wr=>∃ (j:Nat) (s:ByteArray),j<=n/\i=.int .i64 j/\l=.string s/\Below w.heap.size w wr/\nrB s ((ks.map Prod.fst).drop j)=a) (fun i _ _=>n - (intOf i).toNat)
 case atStart=>exact ⟨0,_,Nat.zero_le _,rfl,rfl,Below.refl _ _,HR.out⟩
 case round =>
  obtain ⟨j,s,hj,rfl,rfl,t,u⟩:=hrel
  have f:=Za t
  have C:=Za u
  have a1:w.heap.size<=wr.heap.size:=t.size
  clear t u
  by_cases hlt:j<n
  ·have A:(j:Int)<n:=by omega
   obtain ⟨⟨x,⟨tk,tb,tn,ts,X,R⟩⟩,o⟩:∃ x,ks[j]?=some x:=⟨_,List.getElem?_eq_getElem (by have:=K.out;omega)⟩
   have HX:Hid ((ks.map Prod.fst)[j]?=some x):=by
    show _=_
    rw [List.getElem?_map,o];rfl
   obtain ⟨bl,off,rfl,Q,S⟩:=HK.out.resolve_left (by intro e;rw [e] at o;simp at o)
   obtain ⟨cx,_,v0,v1,v2,v3,v4,v5,⟨c0,c1,c2,c3,c4,c5⟩,hv⟩:=(S j _ o).below (f.out.mono hB) Q
   have G:x.size<=140737488355328:=HS.out _ (List.mem_of_getElem? o)
   simp only at cx hv
   simp only [Zb6] at hv
   obtain ⟨M,W,P,U,O,_⟩:=hv
   obtain ⟨rfl,rfl,rfl,rfl,rfl,rfl⟩:v0=.int .i64 tk/\v1=.bool tb/\v2=.int .i64 tn/\v3=.string ts/\v4=.slice M X.length W/\v5=.slice P R.length U:=by
    simpa using O
   clear S o O
   go_upto_region 5 with fail
   generalize I:World.alloc _ _=W2
   have d:=Zk wr #[.string x,.int .i64 tk,.bool tb,.int .i64 tn,.string ts,.slice M X.length W,.slice P R.length U] 90
   rw [I] at d
   have a0:Hid (Below wr.heap.size wr W2):=by rw [<- I];exact (Below.refl _ _).alloc (Nat.le_refl _) _
   have k0:=d.cell 0 rfl
   have k1:=d.cell 1 rfl
   have k2:=d.cell 2 rfl
   have k3:=d.cell 3 rfl
   have k4:=d.cell 4 rfl
   have k5:=d.cell 5 rfl
   have k6:=d.cell 6 rfl
   clear I d cx c0 c1 c2 c3 c4 c5
   go_wp2_with fail
   refine (Jem x _ _ _ _ _ _ _).mono ?_
   rintro e w2 ⟨rfl,Y⟩
   have D:=Za (Zm f.out (Zm a0.out Y))
   clear Y k0 k1 k2 k3 k4 k5 k6
   have v:=Za (Znm x G w2 (V.out.below D.out V.out.room))
   obtain ⟨N,g⟩:∃ b,Zfs x.data.toList=b:=⟨_,rfl⟩
   rw [g] at v
   obtain ⟨lb,H⟩:∃ b,(Op.bytesLess x.toList s.toList||x.toList==s.toList)=b:=⟨_,rfl⟩
   have m:Hid (a=(N&&(!lb&&nrB x ((ks.map Prod.fst).drop (j+1))))):=by
    show _=_
    rw [<- C.out,Jc0 HX.out,g]
    unfold leqB
    rw [H]
   clear g
   go_wp2_with fail
   refine v.out.mono ?_
   rintro e w3 ⟨rfl,z⟩
   have k:=Za (Zm D.out z)
   clear z
   cases N with
   | false =>
    have y:Hid (a=false):=m.out
    go_wp2_with fail
    go_ret
    exact ⟨by rw [y.out];rfl,k.out⟩
   | true =>
    cases lb with
    | true =>
     have y:Hid (a=false):=m.out
     go_wp2_with fail
     go_ret
     exact ⟨by rw [y.out];rfl,k.out⟩
    | false =>
     have E:Hid (nrB x ((ks.map Prod.fst).drop (j+1))=a):=m.out.symm
     go_wp2_with fail
     go_roundw
     case rel=>exact ⟨j+1,x,by omega,by go_num,rfl,k.out,E.out⟩
     case measure=>simp [intOf];omega
  ·have y:Hid (a=true):=by
    show _=_
    rw [<- C.out,List.drop_of_length_le (by have:=K.out;simp;omega)];rfl
   have A:¬ (j:Int)<n:=by omega
   go_wp2_with fail
   go_ret
   exact ⟨by rw [y.out];rfl,f.out⟩
end Go.Proofs.YthfilnflgahcjaaGreatDoor

