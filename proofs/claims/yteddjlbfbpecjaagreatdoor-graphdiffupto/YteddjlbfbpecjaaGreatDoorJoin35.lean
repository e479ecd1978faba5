import Derived.Test.YteddjlbfbpecjaaGreatDoorRcheck
import Derived.Sort.Walk0
import Derived.Test.YteddjlbfbpecjaaGreatDoorJoin31
namespace Go.Proofs.YteddjlbfbpecjaaGreatDoor
set_option maxHeartbeats 8000000
set_option maxRecDepth 100000
set_option linter.all false
section
open Go.RowKit Go.Shelf
theorem Zux (x l:ByteArray):leqB x l=!decide (Lib.compareBytes l.data.toList x.data.toList<0):=by
 unfold leqB
 rw [<- Zlp,ByteArray.toList_eq,ByteArray.toList_eq,bytesLess_eq,bytesLess_eq,Bool.eq_iff_iff]
 generalize x.data.toList=a
 generalize l.data.toList=b
 simp [List.le_iff_lt_or_eq]
theorem Zuy  : ∀ (ks:List ByteArray) (l:ByteArray),nrB l ks=Zdm (some l) ks
 | [],l=>rfl
 | x::r,l=>by
  rw [nrB,Zuy r x,Zux,Bool.not_not]
  show _=(Ju x.data.toList&&decide (Lib.compareBytes l.data.toList x.data.toList<0)&&Zdm (some x) r)
  rw [Bool.and_assoc]
theorem Zuz (ks:List ByteArray):nrB ⟨#[]⟩ ks=Zdm none ks:=by
 cases ks with
 | nil=>rfl
 | cons x r =>
  rw [nrB,Zuy r x]
  show _=(Ju x.data.toList&&true&&Zdm (some x) r)
  rw [Bool.and_true]
  cases h:Ju x.data.toList with
  | false=>rfl
  | true =>
   have e:leqB x ⟨#[]⟩=false:=by
    rw [Zux]
    have:x.data.toList≠[]:=by
     intro e
     rw [e] at h
     simp [Ju] at h
    cases hx:x.data.toList with
    | nil=>exact absurd hx this
    | cons a b=>simp [Lib.compareBytes]
   rw [e];rfl
theorem Zo9 {T:Zi} (h:checkN T=0):Zw T=true:=by
 obtain ⟨k,b,n,s,ks,ts⟩:=T
 unfold checkN at h
 by_cases ha:((Zi.mk k b n s ks ts).pre 1).all (fun x=>Zw x.2)=true
 ·simp only [Zi.pre,List.all_cons,Bool.and_eq_true] at ha
  exact ha.1
 ·rw [if_neg ha] at h;omega
theorem Zsx {T:Zi} (h:checkN T=0) (d:Zar T.kind=true):T.kids=[]:=by
 have u:=Zo9 h
 obtain ⟨k,b,n,s,ks,ts⟩:=T
 simp only [Zi.kind,Zi.kids] at d |-
 have v:k=1\/k=2\/k=3:=by simpa [Zar,or_assoc] using d
 apply List.eq_nil_of_length_eq_zero
 rcases v with rfl | rfl | rfl<;>simp [Zw,Zav] at u<;>simp [u]
theorem Jci {T:Zi} (h:checkN T=0):Zen T=Zg3 T:=by
 unfold Zen Zg3
 by_cases k4:T.kind=4
 ·rw [if_pos k4,if_pos k4]
  by_cases hn:T.kids=[]
  ·rw [if_pos hn,hn];rfl
  ·rw [if_neg hn,Bool.eq_iff_iff]
   obtain ⟨t0,r,e⟩:∃ t r,T.kids=t::r:=by cases hh:T.kids with | nil=>exact absurd hh hn | cons t r=>exact ⟨t,r,rfl⟩
   have z:Zb2 T.kids=t0.kind:=by rw [e];rfl
   simp only [Bool.and_eq_true,Zxd,List.all_eq_true,beq_iff_eq]
   constructor
   ·rintro ⟨h1,h2⟩ t j
    exact ⟨by rw [h1 t j];exact h2,h1 t j⟩
   ·intro h1
    refine ⟨fun t j=>(h1 t j).2,?_⟩
    have:=(h1 t0 (by rw [e];simp)).1
    rw [z];exact this
 ·rw [if_neg k4,if_neg k4]
  by_cases d:Zar T.kind=true
  ·rw [Zsx h d,d];rfl
  ·have o:Zar T.kind=false:=by simpa using d
   rw [o,Bool.and_false]
theorem Zzc (T:Zi):Zcy T=(decide (checkN T=0)&&Zg3 T):=by
 unfold Zcy
 by_cases h:checkN T=0
 ·rw [Jci h]
 ·rw [decide_eq_false h];rfl
theorem Zig  : ∀ (ps:List (ByteArray × Zi)) (p:Option ByteArray),Zbj p ps=(Zcq ps&&Zdm p (ps.map Prod.fst))
 | [],p=>by cases p<;>rfl
 | q::r,p=>by
  have e:=Zig r (some q.1)
  rw [Zcq,<- Zzc]
  cases p with
  | none =>
   show (Ju q.1.data.toList&&Zcy q.2&&true&&Zbj (some q.1) r)=(Zcy q.2&&Zcq r&&(Ju q.1.data.toList&&true&&Zdm (some q.1) (r.map Prod.fst)))
   rw [e]
   cases Ju q.1.data.toList<;>cases Zcy q.2<;>cases Zcq r<;>rfl
  | some y =>
   show (Ju q.1.data.toList&&Zcy q.2&&decide (Lib.compareBytes y.data.toList q.1.data.toList<0)&&Zbj (some q.1) r)=(Zcy q.2&&Zcq r&&(Ju q.1.data.toList&&decide (Lib.compareBytes y.data.toList q.1.data.toList<0)&&Zdm (some q.1) (r.map Prod.fst)))
   rw [e]
   cases Ju q.1.data.toList<;>cases Zcy q.2<;>cases Zcq r<;>cases decide (Lib.compareBytes y.data.toList q.1.data.toList<0)<;>rfl
theorem Znc (ps:List (ByteArray × Zi)):Zgt ps=Zbj none ps:=by
 unfold Zgt
 rw [Zig,Zuz]
def Jcj (p:Option Int) (l:Int):Prop:=(p=none/\l=0)\/∃ y,p=some y/\0<=y/\l=y+1
theorem Zql {p:Option Int} {l:Int} (h:Jcj p l) (x:Int):(!decide (x<l))=(!decide (x<0)&&Zcn p x):=by
 rcases h with ⟨rfl,rfl⟩ | ⟨y,rfl,h0,rfl⟩
 ·simp [Zcn]
 ·rw [Bool.eq_iff_iff]
  simp [Zcn]
  omega
theorem Zih (nn:Int):∀ (c:List Zo) (p:Option Int) (l:Int),Jcj p l->(Zax nn l (c.map Zo.id)&&(Zbc c&&Js c))=((decide (0<=nn)&&decide (nn<=4611686018427387904))&&Zdq nn p c)
 | [],p,l,h=>by
  show ((decide (0<=nn)&&decide (nn<=4611686018427387904))&&(true&&true))=_
  cases p<;>rfl
 | n::r,p,l,h=>by
  have m:=Zql h n.id
  rw [List.map_cons,Zax,Zbc,Js,Zdq,Zuz,Znc,m]
  by_cases hx:n.id<0
  ·rw [decide_eq_true hx];simp
  ·have e:=Zih nn r (some n.id) (n.id+1) (.inr ⟨_,rfl,by omega,rfl⟩)
   rw [decide_eq_false hx]
   cases Zcn p n.id
   ·simp
   ·cases decide (nn<=n.id)
    ·cases Zdm none n.labels
     ·simp
     ·cases Zbj none n.props
      ·simp
      ·simpa using e
    ·simp
theorem Zu0 (k:Int) (c:List Zo):Zd8 k (Zfw c)=!decide (Zcc k c 0<0):=by
 rw [Zgc,Bool.not_not]
 unfold Zd8 Zfw
 rw [List.any_map]
 rfl
theorem Zkd (c:List Zo) (nr:Int):∀ (i:List Jg) (p:Option Int) (l:Int),Jcj p l->(Zax nr l (i.map Jg.id)&&(Jq i&&(Zcr i&&Ze4 (Zfw c) i)))=((decide (0<=nr)&&decide (nr<=4611686018427387904))&&Zem c nr p i)
 | [],p,l,h=>by
  show ((decide (0<=nr)&&decide (nr<=4611686018427387904))&&(true&&(true&&true)))=_
  cases p<;>rfl
 | n::r,p,l,h=>by
  have m:=Zql h n.id
  rw [List.map_cons,Zax,Jq,Zcr,Ze4,Zem,Znc,m,Zu0,Zu0]
  by_cases hx:n.id<0
  ·rw [decide_eq_true hx];simp
  ·have e:=Zkd c nr r (some n.id) (n.id+1) (.inr ⟨_,rfl,by omega,rfl⟩)
   rw [decide_eq_false hx]
   cases Zcn p n.id
   ·simp
   ·cases decide (nr<=n.id)
    ·cases Ju n.type.data.toList
     ·simp
     ·cases Zbj none n.props
      ·simp
      ·cases decide (Zcc n.fr c 0<0)
       ·cases decide (Zcc n.tt c 0<0)
        ·simpa using e
        ·simp
       ·simp
    ·simp
theorem Zsy (g:Zt):Jo g=Zrn g:=by
 have h1:=Zih g.nn g.nodes none 0 (.inl ⟨rfl,rfl⟩)
 have h2:=Zkd g.nodes g.nr g.rels none 0 (.inl ⟨rfl,rfl⟩)
 unfold Jo Zrn
 have e1:decide ((g.nodes.length:Int)+(g.rels.length:Int)<=65536)=!decide ((65536:Int)<(g.nodes.length:Int)+(g.rels.length:Int)):=by
  rw [Bool.eq_iff_iff];simp
 have e2:∀ x:Int,decide (0<=x)=!decide (x<0):=fun x=>by rw [Bool.eq_iff_iff];simp
 have w:∀ x:Int,decide (x<=4611686018427387904)=!decide (4611686018427387904<x):=fun x=>by rw [Bool.eq_iff_iff];simp
 rw [e2,w] at h1 h2
 rw [e1]
 generalize (!decide ((65536:Int)<(g.nodes.length:Int)+(g.rels.length:Int)))=f
 generalize (!decide (g.nn<0))=a1 at *
 generalize (!decide (4611686018427387904<g.nn))=a2 at *
 generalize (!decide (g.nr<0))=a3 at *
 generalize (!decide (4611686018427387904<g.nr))=a4 at *
 have k:(f&&((Zax g.nn 0 (g.nodes.map Zo.id)&&Zax g.nr 0 (g.rels.map Jg.id))&&(Zbc g.nodes&&((Js g.nodes&&Jq g.rels)&&(Zcr g.rels&&Ze4 (Zfw g.nodes) g.rels)))))=(f&&((Zax g.nn 0 (g.nodes.map Zo.id)&&(Zbc g.nodes&&Js g.nodes))&&(Zax g.nr 0 (g.rels.map Jg.id)&&(Jq g.rels&&(Zcr g.rels&&Ze4 (Zfw g.nodes) g.rels))))):=by
  cases f<;>cases Zax g.nn 0 (g.nodes.map Zo.id)<;>cases Zax g.nr 0 (g.rels.map Jg.id)<;>cases Zbc g.nodes<;>cases Js g.nodes<;>cases Jq g.rels<;>simp
 rw [k,h1,h2]
 cases f<;>cases a1<;>cases a2<;>cases a3<;>cases a4<;>cases Zdq g.nn none g.nodes<;>simp
end
section
open Go.RowKit Go.Shelf
attribute [local go_sem] Oper.semAt_some
def Zdd  : List (ByteArray × Zi)->Bool
 | []=>false
 | q::r=>decide (200<Zo4 q.2)||(decide (5000<Zlc q.2)||(decide (1000<(q.1.size:Int))||Zdd r))
theorem Zyj {ps:List (ByteArray × Zi)} {j:Nat} {q:ByteArray × Zi} (h:ps[j]?=some q):Zdd (ps.drop j)=(decide (200<Zo4 q.2)||(decide (5000<Zlc q.2)||(decide (1000<(q.1.size:Int))||Zdd (ps.drop (j+1))))):=by
 obtain ⟨hj,hx⟩:=List.getElem?_eq_some_iff.1 h
 rw [List.drop_eq_getElem_cons hj,hx,Zdd]
set_option maxRecDepth 100000 in
set_option maxHeartbeats 4000000 in
theorem Zou (v:Value) (ps:List (ByteArray × Zi)) (B:Nat) (w:World) (X:B<=w.heap.size) (W:Jd B w v ps) (ht:∀ q ∈ ps,q.2.total<=2000000):Calls Tryz.prog 31 #[v] w fun e w'=>e=.returned (.bool (Zdd ps))/\Below w.heap.size w w':=by
 have HP:=Zb W
 have R:=Zb ht
 obtain ⟨pa,pc,rfl,h1,h2,_⟩:=W
 obtain ⟨m,S⟩:∃ m,ps.length=m:=⟨_,rfl⟩
 rw [S] at HP h1 |-
 have HM:=Zb S
 obtain ⟨res,b⟩:∃ r,Zdd ps=r:=⟨_,rfl⟩
 have HR:=Zb b
 rw [b]
 clear S ht b
 go_enter Tryz.func31,Tryz.ntmps31
 go_wp2_with fail
 go_loopw [3] (fun i wr=>∃ j:Nat,j<=m/\i=.int .i64 j/\Below w.heap.size w wr/\Zdd (ps.drop j)=res) (fun i _=>m - (intOf i).toNat)
 case atStart=>exact ⟨0,Nat.zero_le _,rfl,Below.refl _ _,HR.out⟩
 case round =>
  obtain ⟨j,hj,rfl,V,F⟩:=hrel
  have L:=Zb V
  have d:=Zb F
  clear V F
  by_cases hlt:j<m
  ·have M:(j:Int)<m:=by omega
   obtain ⟨q,y⟩:∃ q,ps[j]?=some q:=⟨_,List.getElem?_eq_getElem (by rw [HM.out];exact hlt)⟩
   obtain ⟨O,a0,e1,_,_,h3⟩:=HP.out.below (L.out.mono X)
   have f1:pa=O:=by injection e1
   obtain ⟨Y,off,f2,a1,E⟩:=h3.resolve_left (by intro e;rw [e] at y;simp at y)
   have U:=E j q y
   have x:=Zb (Zyj y)
   have k:=R.out q (List.mem_of_getElem? y)
   obtain ⟨d0,K,v0,v1,v2,v3,v4,v5,⟨c0,c1,c2,c3,c4,c5⟩,N⟩:=U
   obtain ⟨P,⟨H,I,D,ts,c,a⟩⟩:=q
   have z:=N
   simp only at k
   simp only [Zaw] at N
   obtain ⟨ka,kc,la,lc,s,_⟩:=N
   have f:=Zh9 _ B _ wr (Nat.le_trans X L.out.size) z k
   rw [s] at f
   simp only at f x
   obtain ⟨ra,u⟩:∃ r,Zo4 (.mk H I D ts c a)=r:=⟨_,rfl⟩
   obtain ⟨rb,A⟩:∃ r,Zm5 (.mk H I D ts c a)=r:=⟨_,rfl⟩
   obtain ⟨rc,t⟩:∃ r,Zlc (.mk H I D ts c a)=r:=⟨_,rfl⟩
   obtain ⟨rd,C⟩:∃ r,Zm4 (.mk H I D ts c a)=r:=⟨_,rfl⟩
   rw [u,A,t,C] at f
   rw [u,t] at x
   have G:=Zb f
   obtain ⟨rfl,rfl,rfl,rfl,rfl,rfl⟩:v0=.int .i64 H/\v1=.bool I/\v2=.int .i64 D/\v3=.string ts/\v4=.slice ka c.length kc/\v5=.slice la a.length lc:=by
    simpa using s
   subst f1 f2
   simp only at d0 K
   unfold maxLen at K
   have T:Y<wr.heap.size:=by have:=L.out.size;omega
   clear E h3 e1 z s f y k u A t C
   go_wp2_with fail
   refine G.out.mono ?_
   rintro e w2 ⟨rfl,o⟩
   have a2:=(o.cell (p:=⟨Y,off+j*7,none⟩) T).trans d0
   have g:=Zb (Za L.out o)
   clear o d0 c0 c1 c2 c3 c4 c5 G
   by_cases g1:200<ra
   ·have n:Hid (res=true):=by
     show _=_
     rw [<- d.out,x.out,decide_eq_true g1];rfl
    go_wp2_with fail
    go_ret
    exact ⟨by rw [n.out];rfl,g.out⟩
   ·by_cases g2:5000<rc
    ·have n:Hid (res=true):=by
      show _=_
      rw [<- d.out,x.out,decide_eq_false g1,decide_eq_true g2];rfl
     go_wp2_with fail
     go_ret
     exact ⟨by rw [n.out];rfl,g.out⟩
    ·by_cases g3:1000<P.size
     ·have l:(1000:Int)<P.size:=by omega
      have n:Hid (res=true):=by
       show _=_
       rw [<- d.out,x.out,decide_eq_false g1,decide_eq_false g2,decide_eq_true l];rfl
      go_wp2_with fail
      go_ret
      exact ⟨by rw [n.out];rfl,g.out⟩
     ·have l:¬ (1000:Int)<P.size:=by omega
      have Q:Hid (Zdd (ps.drop (j+1))=res):=by
       show _=_
       rw [<- d.out,x.out,decide_eq_false g1,decide_eq_false g2,decide_eq_false l];rfl
      go_wp2_with fail
      go_roundw
      case rel=>exact ⟨j+1,by omega,by go_num,g.out,Q.out⟩
      case measure=>simp [intOf];omega
  ·have M:¬ (j:Int)<m:=by omega
   have n:Hid (res=false):=by
    show _=_
    rw [<- d.out,List.drop_of_length_le (by have:=HM.out;omega)];rfl
   go_wp2_with fail
   go_ret
   exact ⟨by rw [n.out];rfl,L.out⟩
end
section
open Go.RowKit Go.Shelf Go.WideShapes
noncomputable def RV6  : Array Oper:=Zy Tryz.f9 6
def LV6  : List Sig:=[⟨22,.fieldAddr 25 (.tmp 1) 0,0,none⟩,⟨23,.load 22 (.tmp 22),22,none⟩,⟨24,.move (.tmp 3),3,none⟩,⟨25,.indexAddr 22 (.tmp 23) (.tmp 24),0,none⟩,⟨26,.fieldAddr 47 (.tmp 25) 1,0,none⟩,⟨27,.load 44 (.tmp 26),44,none⟩,⟨28,.call { callee:=.builtin .len,args:=#[.tmp 27],argTypes:=#[44] },3,none⟩,⟨29,.fieldAddr 25 (.tmp 1) 0,0,none⟩,⟨30,.load 22 (.tmp 29),22,none⟩,⟨31,.move (.tmp 3),3,none⟩,⟨32,.indexAddr 22 (.tmp 30) (.tmp 31),0,none⟩,⟨33,.fieldAddr 47 (.tmp 32) 2,0,none⟩,⟨34,.load 45 (.tmp 33),45,none⟩,⟨35,.call { callee:=.builtin .len,args:=#[.tmp 34],argTypes:=#[45] },3,none⟩,⟨36,.binOp .add 3 (.tmp 28) (.tmp 35) 3,3,none⟩,⟨37,.binOp .gtr 3 (.tmp 36) (.const (.int .i64 12)) 3,4,none⟩,⟨38,.move (.tmp 37),4,none⟩,⟨39,.fieldAddr 25 (.tmp 1) 0,0,some (16,false)⟩,⟨40,.load 22 (.tmp 39),22,some (16,false)⟩,⟨41,.move (.tmp 3),3,some (16,false)⟩,⟨42,.indexAddr 22 (.tmp 40) (.tmp 41),0,some (16,false)⟩,⟨43,.fieldAddr 47 (.tmp 42) 2,0,some (16,false)⟩,⟨44,.load 45 (.tmp 43),45,some (16,false)⟩,⟨45,.call { callee:=.value (.func 31),args:=#[.tmp 44],argTypes:=#[45] },4,some (16,false)⟩,⟨46,.pick (.tmp 38) (.const (.bool true)) (.tmp 45),4,none⟩]
theorem Jij  : Jh RV6=LV6.map some:=by kernel_rfl
def AV6  : List (List Nat):=[[],[0],[],[1,2],[3],[4],[5],[],[7],[],[8,9],[10],[11],[12],[6,13],[14],[15],[16],[16,17],[16],[16,18,19],[16,20],[16,21],[16,22],[16,23]]
structure Zki (G d off kl kc j:Nat) (la:Option Addr) (ll lc:Nat) (l:Option Addr) (f o:Nat) (c:Act):Prop where
 t1:c.eval (.tmp 1)=.pointer (some ⟨G,0,none⟩)
 t3:c.eval (.tmp 3)=.int .i64 (j:Int)
def VVA (G d off kl kc j:Nat) (la:Option Addr) (ll lc:Nat) (l:Option Addr) (f o:Nat):List Value:=[.pointer (some ⟨G,0,none⟩),.slice (some ⟨d,off,none⟩) kl kc,.int .i64 (j:Int),.pointer (some ⟨d,off+j*3,none⟩),.pointer (some ⟨d,off+j*3+1,none⟩),.slice la ll lc,.int .i64 (ll:Int),.pointer (some ⟨G,0,none⟩),.slice (some ⟨d,off,none⟩) kl kc,.int .i64 (j:Int),.pointer (some ⟨d,off+j*3,none⟩),.pointer (some ⟨d,off+j*3+2,none⟩),.slice l f o,.int .i64 (f:Int),.int .i64 ((ll:Int)+(f:Int)),.bool true,.bool true,undef,undef,undef,undef,undef,undef,undef,.bool true]
structure Zv0 (G d off kl kc j:Nat) (la:Option Addr) (ll lc:Nat) (l:Option Addr) (f o:Nat) (w:World):Prop where
 g0:w.cell? ⟨G,0,none⟩=some (.slice (some ⟨d,off,none⟩) kl kc)
 lt:j<kl
 le:kl<=9223372036854775807
 c1:w.cell? ⟨d,off+j*3+1,none⟩=some (.slice la ll lc)
 c2:w.cell? ⟨d,off+j*3+2,none⟩=some (.slice l f o)
 ks:IntKind.i64.wrap ((ll:Int)+(f:Int))=(ll:Int)+(f:Int)
 a1:decide ((12:Int)<(ll:Int)+(f:Int))=true
theorem Zzr (G d off kl kc j:Nat) (la:Option Addr) (ll lc:Nat) (l:Option Addr) (f o:Nat) (Q:Exit->Act->World->Prop) (base:Act) (A:World) (E:base.tmps.size=71) (t:Zki G d off kl kc j la ll lc l f o base)
  (s:∀ w,Below A.heap.size A w->Zv0 G d off kl kc j la ll lc l f o w) (hQ:∀ c w,Zaf RV6 base c->Below A.heap.size A w->c.eval (.tmp 46)=.bool true->Q .normal c w):(Code.region 6 RV6 true).wp Tryz.prog Q base A:=by
 refine Zn (B:=Zki G d off kl kc j la ll lc l f o) (T:=Zv0 G d off kl kc j la ll lc l f o) (n:=25) (k:=24) LV6 AV6 (VVA G d off kl kc j la ll lc l f o) Jij rfl (by kernel_rfl) (by kernel_rfl) (by kernel_rfl) (by rw [E];kernel_rfl) (fun c D=>⟨(Zc D (by kernel_rfl)).trans t.t1,(Zc D (by kernel_rfl)).trans t.t3⟩) s ?_ (by decide) rfl rfl hQ
 clear E t s hQ
 iterate 25 (refine Zd ?_ (by
  intro c w t s hEq
  obtain ⟨t1,t3⟩:=t
  obtain ⟨g0,lt,le,c1,c2,ks,a1⟩:=s
  have ec:=evc c
  have ef:=evf c
  dsimp only [AV6,LV6,VVA,nth,Zbm,Za2,Jc] at hEq |-
  first
  | exact ⟨by simp only [hEq],.inr ⟨by first | exact .inl rfl | exact .inr rfl,rfl⟩⟩
  | ((try refine ⟨by simp only [hEq],.inl ⟨rfl,?_⟩⟩);first | (refine .inl fun pos af=>?_;(dsimp only [Sig.oper];generalize c.eval=ρ at *;go_simp;done)) | (refine .inl fun pos af=>?_;dsimp only [Sig.oper];generalize c.eval=ρ at *;go_simp;simp only [decide_eq_true_eq,decide_eq_false_iff_not] at *;omega))))
 exact Zf
def VVB (G d off kl kc j:Nat) (la:Option Addr) (ll lc:Nat) (l:Option Addr) (f o:Nat):List Value:=[.pointer (some ⟨G,0,none⟩),.slice (some ⟨d,off,none⟩) kl kc,.int .i64 (j:Int),.pointer (some ⟨d,off+j*3,none⟩),.pointer (some ⟨d,off+j*3+1,none⟩),.slice la ll lc,.int .i64 (ll:Int),.pointer (some ⟨G,0,none⟩),.slice (some ⟨d,off,none⟩) kl kc,.int .i64 (j:Int),.pointer (some ⟨d,off+j*3,none⟩),.pointer (some ⟨d,off+j*3+2,none⟩),.slice l f o,.int .i64 (f:Int),.int .i64 ((ll:Int)+(f:Int)),.bool false,.bool false,.pointer (some ⟨G,0,none⟩),.slice (some ⟨d,off,none⟩) kl kc,.int .i64 (j:Int),.pointer (some ⟨d,off+j*3,none⟩),.pointer (some ⟨d,off+j*3+2,none⟩),.slice l f o,.bool true,.bool true]
structure Zv1 (G d off kl kc j:Nat) (la:Option Addr) (ll lc:Nat) (l:Option Addr) (f o:Nat) (w:World):Prop where
 g0:w.cell? ⟨G,0,none⟩=some (.slice (some ⟨d,off,none⟩) kl kc)
 lt:j<kl
 le:kl<=9223372036854775807
 c1:w.cell? ⟨d,off+j*3+1,none⟩=some (.slice la ll lc)
 c2:w.cell? ⟨d,off+j*3+2,none⟩=some (.slice l f o)
 ks:IntKind.i64.wrap ((ll:Int)+(f:Int))=(ll:Int)+(f:Int)
 a1:decide ((12:Int)<(ll:Int)+(f:Int))=false
 k1:Calls Tryz.prog 31 #[.slice l f o] w fun e w'=>e=.returned (.bool true)/\Below w.heap.size w w'
theorem Zzs (G d off kl kc j:Nat) (la:Option Addr) (ll lc:Nat) (l:Option Addr) (f o:Nat) (Q:Exit->Act->World->Prop) (base:Act) (A:World) (E:base.tmps.size=71) (t:Zki G d off kl kc j la ll lc l f o base)
  (s:∀ w,Below A.heap.size A w->Zv1 G d off kl kc j la ll lc l f o w) (hQ:∀ c w,Zaf RV6 base c->Below A.heap.size A w->c.eval (.tmp 46)=.bool true->Q .normal c w):(Code.region 6 RV6 true).wp Tryz.prog Q base A:=by
 refine Zn (B:=Zki G d off kl kc j la ll lc l f o) (T:=Zv1 G d off kl kc j la ll lc l f o) (n:=25) (k:=24) LV6 AV6 (VVB G d off kl kc j la ll lc l f o) Jij rfl (by kernel_rfl) (by kernel_rfl) (by kernel_rfl) (by rw [E];kernel_rfl) (fun c D=>⟨(Zc D (by kernel_rfl)).trans t.t1,(Zc D (by kernel_rfl)).trans t.t3⟩) s ?_ (by decide) rfl rfl hQ
 clear E t s hQ
 iterate 25 (refine Zd ?_ (by
  intro c w t s hEq
  obtain ⟨t1,t3⟩:=t
  obtain ⟨g0,lt,le,c1,c2,ks,a1,k1⟩:=s
  have ec:=evc c
  have ef:=evf c
  dsimp only [AV6,LV6,VVB,nth,Zbm,Za2,Jc] at hEq |-
  first
  | exact ⟨by simp only [hEq],.inr ⟨by first | exact .inl rfl | exact .inr rfl,rfl⟩⟩
  | ((try refine ⟨by simp only [hEq],.inl ⟨rfl,?_⟩⟩);first | (refine Zk Tryz.call31 k1 ?_;simp only [List.map_toArray,List.map_cons,List.map_nil,hEq];done) | (refine .inl fun pos af=>?_;(clear k1;dsimp only [Sig.oper];generalize c.eval=ρ at *;go_simp;done)) | (refine .inl fun pos af=>?_;clear k1;dsimp only [Sig.oper];generalize c.eval=ρ at *;go_simp;simp only [decide_eq_true_eq,decide_eq_false_iff_not] at *;omega))))
 exact Zf
def VVC (G d off kl kc j:Nat) (la:Option Addr) (ll lc:Nat) (l:Option Addr) (f o:Nat):List Value:=[.pointer (some ⟨G,0,none⟩),.slice (some ⟨d,off,none⟩) kl kc,.int .i64 (j:Int),.pointer (some ⟨d,off+j*3,none⟩),.pointer (some ⟨d,off+j*3+1,none⟩),.slice la ll lc,.int .i64 (ll:Int),.pointer (some ⟨G,0,none⟩),.slice (some ⟨d,off,none⟩) kl kc,.int .i64 (j:Int),.pointer (some ⟨d,off+j*3,none⟩),.pointer (some ⟨d,off+j*3+2,none⟩),.slice l f o,.int .i64 (f:Int),.int .i64 ((ll:Int)+(f:Int)),.bool false,.bool false,.pointer (some ⟨G,0,none⟩),.slice (some ⟨d,off,none⟩) kl kc,.int .i64 (j:Int),.pointer (some ⟨d,off+j*3,none⟩),.pointer (some ⟨d,off+j*3+2,none⟩),.slice l f o,.bool false,.bool false]
structure Zv2 (G d off kl kc j:Nat) (la:Option Addr) (ll lc:Nat) (l:Option Addr) (f o:Nat) (w:World):Prop where
 g0:w.cell? ⟨G,0,none⟩=some (.slice (some ⟨d,off,none⟩) kl kc)
 lt:j<kl
 le:kl<=9223372036854775807
 c1:w.cell? ⟨d,off+j*3+1,none⟩=some (.slice la ll lc)
 c2:w.cell? ⟨d,off+j*3+2,none⟩=some (.slice l f o)
 ks:IntKind.i64.wrap ((ll:Int)+(f:Int))=(ll:Int)+(f:Int)
 a1:decide ((12:Int)<(ll:Int)+(f:Int))=false
 k1:Calls Tryz.prog 31 #[.slice l f o] w fun e w'=>e=.returned (.bool false)/\Below w.heap.size w w'
theorem Zzt (G d off kl kc j:Nat) (la:Option Addr) (ll lc:Nat) (l:Option Addr) (f o:Nat) (Q:Exit->Act->World->Prop) (base:Act) (A:World) (E:base.tmps.size=71) (t:Zki G d off kl kc j la ll lc l f o base)
  (s:∀ w,Below A.heap.size A w->Zv2 G d off kl kc j la ll lc l f o w) (hQ:∀ c w,Zaf RV6 base c->Below A.heap.size A w->c.eval (.tmp 46)=.bool false->Q .normal c w):(Code.region 6 RV6 true).wp Tryz.prog Q base A:=by
 refine Zn (B:=Zki G d off kl kc j la ll lc l f o) (T:=Zv2 G d off kl kc j la ll lc l f o) (n:=25) (k:=24) LV6 AV6 (VVC G d off kl kc j la ll lc l f o) Jij rfl (by kernel_rfl) (by kernel_rfl) (by kernel_rfl) (by rw [E];kernel_rfl) (fun c D=>⟨(Zc D (by kernel_rfl)).trans t.t1,(Zc D (by kernel_rfl)).trans t.t3⟩) s ?_ (by decide) rfl rfl hQ
 clear E t s hQ
 iterate 25 (refine Zd ?_ (by
  intro c w t s hEq
  obtain ⟨t1,t3⟩:=t
  obtain ⟨g0,lt,le,c1,c2,ks,a1,k1⟩:=s
  have ec:=evc c
  have ef:=evf c
  dsimp only [AV6,LV6,VVC,nth,Zbm,Za2,Jc] at hEq |-
  first
  | exact ⟨by simp only [hEq],.inr ⟨by first | exact .inl rfl | exact .inr rfl,rfl⟩⟩
  | ((try refine ⟨by simp only [hEq],.inl ⟨rfl,?_⟩⟩);first | (refine Zk Tryz.call31 k1 ?_;simp only [List.map_toArray,List.map_cons,List.map_nil,hEq];done) | (refine .inl fun pos af=>?_;(clear k1;dsimp only [Sig.oper];generalize c.eval=ρ at *;go_simp;done)) | (refine .inl fun pos af=>?_;clear k1;dsimp only [Sig.oper];generalize c.eval=ρ at *;go_simp;simp only [decide_eq_true_eq,decide_eq_false_iff_not] at *;omega))))
 exact Zf
attribute [local go_sem] Oper.semAt_some
def Zjz  : List Zo->Bool
 | []=>false
 | n::r=>decide ((12:Int)<(n.labels.length:Int)+(n.props.length:Int))||(Zdd n.props||Zjz r)
def Zf6  : List Jg->Bool
 | []=>false
 | n::r=>decide ((12:Int)<(n.props.length:Int))||(Zdd n.props||Zf6 r)
def Zs6 (g:Zt):Bool:=decide ((60:Int)<(g.nodes.length:Int))||(decide ((60:Int)<(g.rels.length:Int))||(Zjz g.nodes||Zf6 g.rels))
theorem Zzu {K:List Zo} {j:Nat} {n:Zo} (h:K[j]?=some n):Zjz (K.drop j)=(decide ((12:Int)<(n.labels.length:Int)+(n.props.length:Int))||(Zdd n.props||Zjz (K.drop (j+1)))):=by
 obtain ⟨hj,C⟩:=List.getElem?_eq_some_iff.1 h
 rw [List.drop_eq_getElem_cons hj,C,Zjz]
theorem Zzv {K:List Jg} {j:Nat} {n:Jg} (h:K[j]?=some n):Zf6 (K.drop j)=(decide ((12:Int)<(n.props.length:Int))||(Zdd n.props||Zf6 (K.drop (j+1)))):=by
 obtain ⟨hj,C⟩:=List.getElem?_eq_some_iff.1 h
 rw [List.drop_eq_getElem_cons hj,C,Zf6]
structure Jkb (g:Zt):Prop where
 ofNode:∀ n ∈ g.nodes,n.labels.length<=2000000/\n.props.length<=2000000/\∀ q ∈ n.props,q.2.total<=2000000
 ofRel:∀ r ∈ g.rels,∀ q ∈ r.props,q.2.total<=2000000
theorem Zq5 (g:Zt) (B:Nat) (v:Value) (w:World) (hB:B<=w.heap.size) (hg:Zr B w v g) (hz:Jkb g):Calls Tryz.prog 9 #[v] w fun e w'=>e=.returned (.bool (Zs6 g))/\Below w.heap.size w w':=by
 obtain ⟨na,nc,ra,rc,rfl,hn,hr⟩:=hg
 obtain ⟨a8,a6⟩:=hz
 obtain ⟨res,X⟩:∃ r,Zs6 g=r:=⟨_,rfl⟩
 have b2:=Zb X
 rw [X]
 clear X
 obtain ⟨K,V,nn,nr⟩:=g
 simp only at hn hr a8 a6 |-
 obtain ⟨a',c',e1,h1,h2,b4⟩:=hn
 obtain ⟨rfl,rfl⟩:na=a'/\nc=c':=by injection e1 with e1 _ e2;exact ⟨e1,e2⟩
 obtain ⟨a',c',e2,r1,r2,b8⟩:=hr
 obtain ⟨rfl,rfl⟩:ra=a'/\rc=c':=by injection e2 with e1 _ e2;exact ⟨e1,e2⟩
 have HP:=Zb b4
 have HQ:=Zb b8
 have c7:=Zb a8
 have d0:=Zb a6
 have HR:Hid ((decide ((60:Int)<(K.length:Int))||(decide ((60:Int)<(V.length:Int))||(Zjz K||Zf6 V)))=res):=b2.out
 obtain ⟨n,hn⟩:∃ n,K.length=n:=⟨_,rfl⟩
 have HN:=Zb hn
 obtain ⟨m,hm⟩:∃ m,V.length=m:=⟨_,rfl⟩
 have HM:=Zb hm
 rw [hn] at h1
 rw [hm] at r1
 rw [hn,hm] at HR |-
 clear b4 b8 a8 a6 hn hm e1 e2 b2
 have a7:n<=9223372036854775807:=by omega
 have d2:m<=9223372036854775807:=by omega
 obtain ⟨W1,a2⟩:∃ W1,w.alloc (.cells #[.slice na n nc,.slice ra m rc,.int .i64 nn,.int .i64 nr] 25)=W1:=⟨_,rfl⟩
 have Y:=Zl w #[.slice na n nc,.slice ra m rc,.int .i64 nn,.int .i64 nr] 25
 rw [a2] at Y
 have b3:Below w.heap.size w W1:=a2▸(Below.refl _ _).alloc (Nat.le_refl _) _
 have R:=Zb Y
 have z:=Zb b3
 have b7:=Zb a2
 have q0:=Y.cell 0 rfl
 have q1:=Y.cell 1 rfl
 clear b3 a2 Y
 go_enter Tryz.func9,Tryz.ntmps9
 go_upto_region 1 with fail
 rw [b7.out]
 clear b7
 by_cases t1:(60:Int)<(n:Int)
 ·have P:Hid (res=true):=by
   show _=_
   rw [<- HR.out,decide_eq_true t1];rfl
  go_wp2_with fail
  go_ret
  exact ⟨by rw [P.out];rfl,z.out⟩
 ·by_cases t2:(60:Int)<(m:Int)
  ·have P:Hid (res=true):=by
    show _=_
    rw [<- HR.out,decide_eq_false t1,decide_eq_true t2];rfl
   go_wp2_with fail
   go_ret
   exact ⟨by rw [P.out];rfl,z.out⟩
  ·have c9:Hid ((Zjz K||Zf6 V)=res):=by
    show _=_
    rw [<- HR.out,decide_eq_false t1,decide_eq_false t2];rfl
   go_wp2_with fail
   clear t1 t2 HR
   go_loopw [3] (fun i wr=>∃ j:Nat,j<=n/\i=.int .i64 j/\Below W1.heap.size W1 wr/\(Zjz (K.drop j)||Zf6 V)=res) (fun i _=>n - (intOf i).toNat)
   case atStart=>exact ⟨0,Nat.zero_le _,rfl,Below.refl _ _,c9.out⟩
   case round =>
    obtain ⟨j,hj,rfl,y,a0⟩:=hrel
    have u:=Zb y
    have U:=Zb a0
    have b0:w.heap.size<wr.heap.size:=by
     have:=R.out.lt
     have:=y.size
     omega
    have q0:=(R.out.below y R.out.lt).cell 0 rfl
    clear y a0
    by_cases hlt:j<n
    ·have O:(j:Int)<n:=by omega
     obtain ⟨⟨xi,xl,L⟩,C⟩:∃ q,K[j]?=some q:=⟨_,List.getElem?_eq_getElem (by have:=HN.out;omega)⟩
     have HX:=Zb C
     obtain ⟨d,off,rfl,a9,hc⟩:=HP.out.resolve_left (by intro e;rw [e] at C;simp at C)
     have b1:d<wr.heap.size:=by omega
     have a3:=Zb (Za z.out u.out)
     obtain ⟨la,lc,pv,⟨c0,c1,c2⟩,⟨d1,c8⟩,hk,hp⟩:=(hc j _ C).below (a3.out.mono hB) a9
     obtain ⟨c5,b9,M⟩:=c7.out _ (List.mem_of_getElem? C)
     simp only at c0 c1 c2 hp c5 b9 M
     have S:=Zb (fun W (t:Below wr.heap.size wr W)=>Zou pv L B W (by have:=t.size;omega) (hp.below (t.mono (by omega))) M)
     obtain ⟨l,o,rfl,_,_,_⟩:=hp
     have a4:Hid (IntKind.i64.wrap ((xl.length:Int)+(L.length:Int))=(xl.length:Int)+(L.length:Int)):=by
      show _=_
      rw [IntKind.wrap_i64];omega
     obtain ⟨bp,N⟩:∃ b,Zdd L=b:=⟨_,rfl⟩
     rw [N] at S
     have HE:Hid (res=((decide ((12:Int)<(xl.length:Int)+(L.length:Int))||(bp||Zjz (K.drop (j+1))))||Zf6 V)):=by
      show _=_
      rw [<- U.out,Zzu HX.out]
      simp only
      rw [N]
     have HC:Hid (∀ W,Below wr.heap.size wr W->W.cell? ⟨w.heap.size,0,none⟩=some (.slice (some ⟨d,off,none⟩) n nc)/\W.cell? ⟨d,off+j*3+1,none⟩=some (.slice la xl.length lc)/\W.cell? ⟨d,off+j*3+2,none⟩=some (.slice l L.length o)):=fun W t =>
      ⟨(t.cell (p:=⟨w.heap.size,0,none⟩) b0).trans q0,(t.cell (p:=⟨d,off+j*3+1,none⟩) b1).trans c1,(t.cell (p:=⟨d,off+j*3+2,none⟩) b1).trans c2⟩
     clear hc C hk M N d1 c8 c5 b9
     go_upto_region 6 with fail
     clear c0 c1 c2 q0
     show (Code.region 6 RV6 true).wp _ _ _ _
     by_cases a1:(12:Int)<(xl.length:Int)+(L.length:Int)
     ·have x:=Zb (decide_eq_true a1)
      clear a1
      refine Zzr w.heap.size d off n nc j la xl.length lc l L.length o _ _ _ rfl ⟨rfl,rfl⟩ ?_ ?_
      ·intro W s
       exact ⟨(HC.out W s).1,hlt,a7,(HC.out W s).2.1,(HC.out W s).2.2,a4.out,x.out⟩
      intro c W3 D F I
      rw [Zj D [22,23,24,25,26,27,28,29,30,31,32,33,34,35,36,37,38,39,40,41,42,43,44,45,46] (by kernel_rfl)]
      simp only [List.foldl_cons,List.foldl_nil,List.setIfInBounds_toArray,List.set_cons_succ,List.set_cons_zero,show Zbd c 46=_ from I]
      clear I D
      have H:=Zb (Za u.out F)
      clear F
      have P:Hid (res=true):=by
       show _=_
       rw [HE.out,x.out];rfl
      go_wp2_with fail
      go_ret
      exact ⟨by rw [P.out];rfl,Za z.out H.out⟩
     ·have x:=Zb (decide_eq_false a1)
      clear a1
      cases bp with
      | true =>
       refine Zzs w.heap.size d off n nc j la xl.length lc l L.length o _ _ _ rfl ⟨rfl,rfl⟩ ?_ ?_
       ·intro W s
        exact ⟨(HC.out W s).1,hlt,a7,(HC.out W s).2.1,(HC.out W s).2.2,a4.out,x.out,S.out W s⟩
       intro c W3 D F I
       rw [Zj D [22,23,24,25,26,27,28,29,30,31,32,33,34,35,36,37,38,39,40,41,42,43,44,45,46] (by kernel_rfl)]
       simp only [List.foldl_cons,List.foldl_nil,List.setIfInBounds_toArray,List.set_cons_succ,List.set_cons_zero,show Zbd c 46=_ from I]
       clear I D
       have H:=Zb (Za u.out F)
       clear F
       have P:Hid (res=true):=by
        show _=_
        rw [HE.out,x.out];rfl
       go_wp2_with fail
       go_ret
       exact ⟨by rw [P.out];rfl,Za z.out H.out⟩
      | false =>
       refine Zzt w.heap.size d off n nc j la xl.length lc l L.length o _ _ _ rfl ⟨rfl,rfl⟩ ?_ ?_
       ·intro W s
        exact ⟨(HC.out W s).1,hlt,a7,(HC.out W s).2.1,(HC.out W s).2.2,a4.out,x.out,S.out W s⟩
       intro c W3 D F I
       rw [Zj D [22,23,24,25,26,27,28,29,30,31,32,33,34,35,36,37,38,39,40,41,42,43,44,45,46] (by kernel_rfl)]
       simp only [List.foldl_cons,List.foldl_nil,List.setIfInBounds_toArray,List.set_cons_succ,List.set_cons_zero,show Zbd c 46=_ from I]
       clear I D
       have H:=Zb (Za u.out F)
       clear F
       have a5:Hid ((Zjz (K.drop (j+1))||Zf6 V)=res):=by
        show _=_
        rw [HE.out,x.out];rfl
       go_wp2_with fail
       go_roundw
       case rel=>exact ⟨j+1,by omega,by go_num,H.out,a5.out⟩
       case measure=>simp [intOf];omega
    ·have c6:Hid (Zf6 V=res):=by
      show _=_
      rw [<- U.out,List.drop_of_length_le (by have:=HN.out;omega)];rfl
     have O:¬ (j:Int)<n:=by omega
     have b6:=u
     go_wp2_with fail
     clear hlt O U hj u q0 b0
     go_loopw [4] (fun i wr=>∃ j:Nat,j<=m/\i=.int .i64 j/\Below W1.heap.size W1 wr/\Zf6 (V.drop j)=res) (fun i _=>m - (intOf i).toNat)
     case atStart=>exact ⟨0,Nat.zero_le _,rfl,b6.out,c6.out⟩
     case round =>
      clear b6
      obtain ⟨j,hj,rfl,y,a0⟩:=hrel
      have u:=Zb y
      have U:=Zb a0
      have b0:w.heap.size<wr.heap.size:=by
       have:=R.out.lt
       have:=y.size
       omega
      have q1:=(R.out.below y R.out.lt).cell 1 rfl
      clear y a0
      by_cases hlt:j<m
      ·have O:(j:Int)<m:=by omega
       obtain ⟨⟨xi,fr,tt,ty,L⟩,C⟩:∃ q,V[j]?=some q:=⟨_,List.getElem?_eq_getElem (by have:=HM.out;omega)⟩
       have HX:=Zb C
       obtain ⟨d,off,rfl,a9,hc⟩:=HQ.out.resolve_left (by intro e;rw [e] at C;simp at C)
       have b1:d<wr.heap.size:=by omega
       have a3:=Zb (Za z.out u.out)
       obtain ⟨pv,⟨c0,c1,c2,c3,c4⟩,_,hp⟩:=(hc j _ C).below (a3.out.mono hB) a9
       have M:=d0.out _ (List.mem_of_getElem? C)
       simp only at c4 hp M
       have S:=Zb (Zou pv L B wr (by omega) hp M)
       obtain ⟨l,o,rfl,d4,d3,_⟩:=hp
       obtain ⟨bp,N⟩:∃ b,Zdd L=b:=⟨_,rfl⟩
       rw [N] at S
       have HE:Hid (res=(decide ((12:Int)<(L.length:Int))||(bp||Zf6 (V.drop (j+1))))):=by
        show _=_
        rw [<- U.out,Zzv HX.out]
        simp only
        rw [N]
       clear hc C M N c0 c1 c2 c3
       by_cases a1:(12:Int)<(L.length:Int)
       ·have P:Hid (res=true):=by
         show _=_
         rw [HE.out,decide_eq_true a1];rfl
        go_wp2_with fail
        go_ret
        exact ⟨by rw [P.out];rfl,Za z.out u.out⟩
       ·have x:=Zb (decide_eq_false a1)
        go_wp2_with fail
        refine S.out.mono ?_
        rintro e w2 ⟨rfl,b5⟩
        have H:=Zb (Za u.out b5)
        clear b5
        cases bp with
        | true =>
         have P:Hid (res=true):=by
          show _=_
          rw [HE.out,x.out];rfl
         go_wp2_with fail
         go_ret
         exact ⟨by rw [P.out];rfl,Za z.out H.out⟩
        | false =>
         have a5:Hid (Zf6 (V.drop (j+1))=res):=by
          show _=_
          rw [HE.out,x.out];rfl
         go_wp2_with fail
         go_roundw
         case rel=>exact ⟨j+1,by omega,by go_num,H.out,a5.out⟩
         case measure=>simp [intOf];omega
      ·have P:Hid (res=false):=by
        show _=_
        rw [<- U.out,List.drop_of_length_le (by have:=HM.out;omega)];rfl
       have O:¬ (j:Int)<m:=by omega
       go_wp2_with fail
       go_ret
       exact ⟨by rw [P.out];rfl,Za z.out u.out⟩
end
section
open Go.RowKit Go.Shelf
attribute [local go_sem] Oper.semAt_some
structure Fit (g:Zt):Prop where
 bulk:Jkb g
 sized:Jge g
 mild:Jd2 g
 sane:Je8 g
 nn:-9223372036854775808<=g.nn/\g.nn<=9223372036854775807
 nr:-9223372036854775808<=g.nr/\g.nr<=9223372036854775807
 ends:∀ r ∈ g.rels,I64 r.fr/\I64 r.tt
 ofN:∀ x ∈ g.nodes,x.labels.length<=2000000/\x.props.length<=2000000/\∀ q ∈ x.props,q.2.total<=2000000
 ofR:∀ x ∈ g.rels,x.props.length<=2000000/\∀ q ∈ x.props,q.2.total<=2000000
theorem Fit.modN {g:Zt} (h:Fit g):∀ n ∈ g.nodes,∀ x ∈ n.props,Zas x.2:=fun n a x b=>((h.mild.ofNode n a).2 x b).2
theorem Fit.modR {g:Zt} (h:Fit g):∀ n ∈ g.rels,∀ x ∈ n.props,Zas x.2:=fun n a x b=>((h.mild.ofRel n a).2 x b).2
end
