/- What the program asks of a graph is what the document asks. -/
import Derived.Test.YteddjlbfbpecjaaGreatDoorJoin29
import Derived.Test.YteddjlbfbpecjaaGreatDoorRcheck
import Derived.Sort.Walk0
import Derived.Test.YteddjlbfbpecjaaGreatDoorJoin17
import Derived.Test.YteddjlbfbpecjaaGreatDoorJoin23
import Derived.Test.YteddjlbfbpecjaaGreatDoorJoin2
import Derived.Test.YteddjlbfbpecjaaGreatDoorJoin1
import Derived.Test.YteddjlbfbpecjaaGreatDoorJoin4
import Derived.Test.YteddjlbfbpecjaaGreatDoorJoin27
import Derived.Test.YteddjlbfbpecjaaGreatDoorJoin30
import Derived.Test.YteddjlbfbpecjaaGreatDoorRsam3
import Derived.Test.YteddjlbfbpecjaaGreatDoorJoin33
import Derived.Test.YteddjlbfbpecjaaGreatDoorJoin32
namespace Go.Proofs.YteddjlbfbpecjaaGreatDoor
section
open Go.RowKit Go.Shelf
set_option linter.all false
theorem Zr5 (x l:ByteArray):leqB x l=!decide (Lib.compareBytes l.data.toList x.data.toList<0):=by
 unfold leqB
 rw [← Zj9,ByteArray.toList_eq,ByteArray.toList_eq,bytesLess_eq,bytesLess_eq,Bool.eq_iff_iff]
 generalize x.data.toList=a
 generalize l.data.toList=b
 simp [List.le_iff_lt_or_eq]
theorem Zr6  : ∀ (ks:List ByteArray) (l:ByteArray),nrB l ks=Zda (some l) ks
 | [],l=>rfl
 | x::r,l=>by
  rw [nrB,Zr6 r x,Zr5,Bool.not_not]
  show _=(Jn x.data.toList&&decide (Lib.compareBytes l.data.toList x.data.toList<0)&&Zda (some x) r)
  rw [Bool.and_assoc]
theorem Zr7 (ks:List ByteArray):nrB ⟨#[]⟩ ks=Zda none ks:=by
 cases ks with
 | nil=>rfl
 | cons x r =>
  rw [nrB,Zr6 r x]
  show _=(Jn x.data.toList&&true&&Zda (some x) r)
  rw [Bool.and_true]
  cases h:Jn x.data.toList with
  | false=>rfl
  | true =>
   have e:leqB x ⟨#[]⟩=false:=by
    rw [Zr5]
    have:x.data.toList≠[]:=by
     intro e
     rw [e] at h
     simp [Jn] at h
    cases hx:x.data.toList with
    | nil=>exact absurd hx this
    | cons a b=>simp [Lib.compareBytes]
   rw [e];rfl
theorem Zm8 {T:Zk} (h:checkN T=0):Zz T=true:=by
 obtain ⟨k,b,n,s,ks,ts⟩:=T
 unfold checkN at h
 by_cases ha:((Zk.mk k b n s ks ts).pre 1).all (fun x=>Zz x.2)=true
 ·simp only [Zk.pre,List.all_cons,Bool.and_eq_true] at ha
  exact ha.1
 ·rw [if_neg ha] at h;omega
theorem Zqg {T:Zk} (h:checkN T=0) (hp:Zah T.kind=true):T.kids=[]:=by
 have hs:=Zm8 h
 obtain ⟨k,b,n,s,ks,ts⟩:=T
 simp only [Zk.kind,Zk.kids] at hp ⊢
 have hk:k=1∨k=2∨k=3:=by simpa [Zah,or_assoc] using hp
 apply List.eq_nil_of_length_eq_zero
 rcases hk with rfl | rfl | rfl<;>simp [Zz,Zal] at hs<;>simp [hs]
theorem Zzh {T:Zk} (h:checkN T=0):Zeb T=Zgn T:=by
 unfold Zeb Zgn
 by_cases k4:T.kind=4
 ·rw [if_pos k4,if_pos k4]
  by_cases hn:T.kids=[]
  ·rw [if_pos hn,hn];rfl
  ·rw [if_neg hn,Bool.eq_iff_iff]
   obtain ⟨t0,r,e⟩:∃ t r,T.kids=t::r:=by cases hh:T.kids with | nil=>exact absurd hh hn | cons t r=>exact ⟨t,r,rfl⟩
   have hf:Zbt T.kids=t0.kind:=by rw [e];rfl
   simp only [Bool.and_eq_true,Zui,List.all_eq_true,beq_iff_eq]
   constructor
   ·rintro ⟨h1,h2⟩ t ht
    exact ⟨by rw [h1 t ht];exact h2,h1 t ht⟩
   ·intro h1
    refine ⟨fun t ht=>(h1 t ht).2,?_⟩
    have:=(h1 t0 (by rw [e];simp)).1
    rw [hf];exact this
 ·rw [if_neg k4,if_neg k4]
  by_cases hp:Zah T.kind=true
  ·rw [Zqg h hp,hp];rfl
  ·have hp':Zah T.kind=false:=by simpa using hp
   rw [hp',Bool.and_false]
theorem Zv8 (T:Zk):Zcu T=(decide (checkN T=0)&&Zgn T):=by
 unfold Zcu
 by_cases h:checkN T=0
 ·rw [Zzh h]
 ·rw [decide_eq_false h];rfl
theorem Zho  : ∀ (ps:List (ByteArray × Zk)) (p:Option ByteArray),Zbg p ps=(Zc1 ps&&Zda p (ps.map Prod.fst))
 | [],p=>by cases p<;>rfl
 | q::r,p=>by
  have e:=Zho r (some q.1)
  rw [Zc1,← Zv8]
  cases p with
  | none =>
   show (Jn q.1.data.toList&&Zcu q.2&&true&&Zbg (some q.1) r)=(Zcu q.2&&Zc1 r&&(Jn q.1.data.toList&&true&&Zda (some q.1) (r.map Prod.fst)))
   rw [e]
   cases Jn q.1.data.toList<;>cases Zcu q.2<;>cases Zc1 r<;>rfl
  | some y =>
   show (Jn q.1.data.toList&&Zcu q.2&&decide (Lib.compareBytes y.data.toList q.1.data.toList<0)&&Zbg (some q.1) r)=(Zcu q.2&&Zc1 r&&(Jn q.1.data.toList&&decide (Lib.compareBytes y.data.toList q.1.data.toList<0)&&Zda (some q.1) (r.map Prod.fst)))
   rw [e]
   cases Jn q.1.data.toList<;>cases Zcu q.2<;>cases Zc1 r<;>cases decide (Lib.compareBytes y.data.toList q.1.data.toList<0)<;>rfl
theorem Zlm (ps:List (ByteArray × Zk)):Zhs ps=Zbg none ps:=by
 unfold Zhs
 rw [Zho,Zr7]
def Zzi (p:Option Int) (l:Int):Prop:=(p=none∧l=0)∨∃ y,p=some y∧0≤y∧l=y+1
theorem Zoo {p:Option Int} {l:Int} (h:Zzi p l) (x:Int):(!decide (x<l))=(!decide (x<0)&&Zcb p x):=by
 rcases h with ⟨rfl,rfl⟩ | ⟨y,rfl,h0,rfl⟩
 ·simp [Zcb]
 ·rw [Bool.eq_iff_iff]
  simp [Zcb]
  omega
theorem Zhp (nn:Int):∀ (ns:List Zp) (p:Option Int) (l:Int),Zzi p l→(Zav nn l (ns.map Zp.id)&&(Za4 ns&&Js ns))=((decide (0≤nn)&&decide (nn≤4611686018427387904))&&Zdd nn p ns)
 | [],p,l,h=>by
  show ((decide (0≤nn)&&decide (nn≤4611686018427387904))&&(true&&true))=_
  cases p<;>rfl
 | n::r,p,l,h=>by
  have e0:=Zoo h n.id
  rw [List.map_cons,Zav,Za4,Js,Zdd,Zr7,Zlm,e0]
  by_cases hx:n.id<0
  ·rw [decide_eq_true hx];simp
  ·have e:=Zhp nn r (some n.id) (n.id+1) (.inr ⟨_,rfl,by omega,rfl⟩)
   rw [decide_eq_false hx]
   cases Zcb p n.id
   ·simp
   ·cases decide (nn≤n.id)
    ·cases Zda none n.labels
     ·simp
     ·cases Zbg none n.props
      ·simp
      ·simpa using e
    ·simp
theorem Zr8 (k:Int) (ns:List Zp):Zdy k (Zfl ns)=!decide (Zc8 k ns 0<0):=by
 rw [Zmc,Bool.not_not]
 unfold Zdy Zfl
 rw [List.any_map]
 rfl
theorem Zi7 (ns:List Zp) (nr:Int):∀ (rs:List Jj) (p:Option Int) (l:Int),Zzi p l→(Zav nr l (rs.map Jj.id)&&(Jo rs&&(Zcj rs&&Zev (Zfl ns) rs)))=((decide (0≤nr)&&decide (nr≤4611686018427387904))&&Zea ns nr p rs)
 | [],p,l,h=>by
  show ((decide (0≤nr)&&decide (nr≤4611686018427387904))&&(true&&(true&&true)))=_
  cases p<;>rfl
 | n::r,p,l,h=>by
  have e0:=Zoo h n.id
  rw [List.map_cons,Zav,Jo,Zcj,Zev,Zea,Zlm,e0,Zr8,Zr8]
  by_cases hx:n.id<0
  ·rw [decide_eq_true hx];simp
  ·have e:=Zi7 ns nr r (some n.id) (n.id+1) (.inr ⟨_,rfl,by omega,rfl⟩)
   rw [decide_eq_false hx]
   cases Zcb p n.id
   ·simp
   ·cases decide (nr≤n.id)
    ·cases Jn n.type.data.toList
     ·simp
     ·cases Zbg none n.props
      ·simp
      ·cases decide (Zc8 n.fr ns 0<0)
       ·cases decide (Zc8 n.tt ns 0<0)
        ·simpa using e
        ·simp
       ·simp
    ·simp
theorem Zi8 (g:Zy):Zaj g=Zpf g:=by
 have h1:=Zhp g.nn g.nodes none 0 (.inl ⟨rfl,rfl⟩)
 have h2:=Zi7 g.nodes g.nr g.rels none 0 (.inl ⟨rfl,rfl⟩)
 unfold Zaj Zpf
 have e1:decide ((g.nodes.length:Int)+(g.rels.length:Int)≤65536)=!decide ((65536:Int)<(g.nodes.length:Int)+(g.rels.length:Int)):=by
  rw [Bool.eq_iff_iff];simp
 have e2:∀ x:Int,decide (0≤x)=!decide (x<0):=fun x=>by rw [Bool.eq_iff_iff];simp
 have e3:∀ x:Int,decide (x≤4611686018427387904)=!decide (4611686018427387904<x):=fun x=>by rw [Bool.eq_iff_iff];simp
 rw [e2,e3] at h1 h2
 rw [e1]
 generalize (!decide ((65536:Int)<(g.nodes.length:Int)+(g.rels.length:Int)))=f
 generalize (!decide (g.nn<0))=a1 at *
 generalize (!decide (4611686018427387904<g.nn))=a2 at *
 generalize (!decide (g.nr<0))=a3 at *
 generalize (!decide (4611686018427387904<g.nr))=a4 at *
 have k:(f&&((Zav g.nn 0 (g.nodes.map Zp.id)&&Zav g.nr 0 (g.rels.map Jj.id))&&(Za4 g.nodes&&((Js g.nodes&&Jo g.rels)&&(Zcj g.rels&&Zev (Zfl g.nodes) g.rels)))))=(f&&((Zav g.nn 0 (g.nodes.map Zp.id)&&(Za4 g.nodes&&Js g.nodes))&&(Zav g.nr 0 (g.rels.map Jj.id)&&(Jo g.rels&&(Zcj g.rels&&Zev (Zfl g.nodes) g.rels))))):=by
  cases f<;>cases Zav g.nn 0 (g.nodes.map Zp.id)<;>cases Zav g.nr 0 (g.rels.map Jj.id)<;>cases Za4 g.nodes<;>cases Js g.nodes<;>cases Jo g.rels<;>simp
 rw [k,h1,h2]
 cases f<;>cases a1<;>cases a2<;>cases a3<;>cases a4<;>cases Zdd g.nn none g.nodes<;>simp
end
section
open Go.RowKit Go.Shelf
set_option linter.all false
attribute [local go_sem] Oper.semAt_some
def Zc4  : List (ByteArray × Zk)→Bool
 | []=>false
 | q::r=>decide (200<Zm2 q.2)||(decide (5000<Zjv q.2)||(decide (1000<(q.1.size:Int))||Zc4 r))
theorem Zve {ps:List (ByteArray × Zk)} {j:Nat} {q:ByteArray × Zk} (h:ps[j]?=some q):Zc4 (ps.drop j)=(decide (200<Zm2 q.2)||(decide (5000<Zjv q.2)||(decide (1000<(q.1.size:Int))||Zc4 (ps.drop (j+1))))):=by
 obtain ⟨hj,hx⟩:=List.getElem?_eq_some_iff.1 h
 rw [List.drop_eq_getElem_cons hj,hx,Zc4]
set_option maxRecDepth 100000 in
set_option maxHeartbeats 4000000 in
theorem Zmr (v:Value) (ps:List (ByteArray × Zk)) (B:Nat) (w:World) (hB:B≤w.heap.size) (hp:Jh B w v ps) (ht:∀ q ∈ ps,q.2.total≤2000000):Calls Tryz.prog 31 #[v] w fun e w'=>e=.returned (.bool (Zc4 ps))∧Below w.heap.size w w':=by
 have HP:=Zb hp
 have HTT:=Zb ht
 obtain ⟨pa,pc,rfl,h1,h2,_⟩:=hp
 obtain ⟨m,hm⟩:∃ m,ps.length=m:=⟨_,rfl⟩
 rw [hm] at HP h1 ⊢
 have HM:=Zb hm
 obtain ⟨res,hres⟩:∃ r,Zc4 ps=r:=⟨_,rfl⟩
 have HR:=Zb hres
 rw [hres]
 clear hm ht hres
 go_enter Tryz.func31,Tryz.ntmps31
 go_wp2_with fail
 go_loopw [3] (fun i wr=>∃ j:Nat,j≤m∧i=.int .i64 j∧Below w.heap.size w wr∧Zc4 (ps.drop j)=res) (fun i _=>m - (intOf i).toNat)
 case atStart=>exact ⟨0,Nat.zero_le _,rfl,Below.refl _ _,HR.out⟩
 case round =>
  obtain ⟨j,hj,rfl,hb,hrs⟩:=hrel
  have HB:=Zb hb
  have HRS:=Zb hrs
  clear hb hrs
  by_cases hlt:j<m
  ·have hlt':(j:Int)<m:=by omega
   obtain ⟨q,hq⟩:∃ q,ps[j]?=some q:=⟨_,List.getElem?_eq_getElem (by rw [HM.out];exact hlt)⟩
   obtain ⟨pa',pc',e1,_,_,h3⟩:=HP.out.below (HB.out.mono hB)
   have f1:pa=pa':=by injection e1
   obtain ⟨bl,off,f2,hbl,hat⟩:=h3.resolve_left (by intro e;rw [e] at hq;simp at hq)
   have hq2:=hat j q hq
   have HE:=Zb (Zve hq)
   have htq:=HTT.out q (List.mem_of_getElem? hq)
   obtain ⟨d0,hs0,v0,v1,v2,v3,v4,v5,⟨c0,c1,c2,c3,c4,c5⟩,hv⟩:=hq2
   obtain ⟨qk,⟨tk,tb,tn,ts,tks,tts⟩⟩:=q
   have hv0:=hv
   simp only at htq
   simp only [Zaw] at hv
   obtain ⟨ka,kc,la,lc,hag,_⟩:=hv
   have hsz:=Zhj _ B _ wr (Nat.le_trans hB HB.out.size) hv0 htq
   rw [hag] at hsz
   simp only at hsz HE
   obtain ⟨ra,hra⟩:∃ r,Zm2 (.mk tk tb tn ts tks tts)=r:=⟨_,rfl⟩
   obtain ⟨rb,hrb⟩:∃ r,Zlg (.mk tk tb tn ts tks tts)=r:=⟨_,rfl⟩
   obtain ⟨rc,hrc⟩:∃ r,Zjv (.mk tk tb tn ts tks tts)=r:=⟨_,rfl⟩
   obtain ⟨rd,hrd⟩:∃ r,Zlf (.mk tk tb tn ts tks tts)=r:=⟨_,rfl⟩
   rw [hra,hrb,hrc,hrd] at hsz
   rw [hra,hrc] at HE
   have HSZ:=Zb hsz
   obtain ⟨rfl,rfl,rfl,rfl,rfl,rfl⟩:v0=.int .i64 tk∧v1=.bool tb∧v2=.int .i64 tn∧v3=.string ts∧v4=.slice ka tks.length kc∧v5=.slice la tts.length lc:=by
    simpa using hag
   subst f1 f2
   simp only at d0 hs0
   unfold maxLen at hs0
   have hbw:bl<wr.heap.size:=by have:=HB.out.size;omega
   clear hat h3 e1 hv0 hag hsz hq htq hra hrb hrc hrd
   go_wp2_with fail
   refine HSZ.out.mono ?_
   rintro e w2 ⟨rfl,hb2⟩
   have d0':=(hb2.cell (p:=⟨bl,off+j*7,none⟩) hbw).trans d0
   have HB2:=Zb (Za HB.out hb2)
   clear hb2 d0 c0 c1 c2 c3 c4 c5 HSZ
   by_cases g1:200<ra
   ·have HF:Hid (res=true):=by
     show _=_
     rw [← HRS.out,HE.out,decide_eq_true g1];rfl
    go_wp2_with fail
    go_ret
    exact ⟨by rw [HF.out];rfl,HB2.out⟩
   ·by_cases g2:5000<rc
    ·have HF:Hid (res=true):=by
      show _=_
      rw [← HRS.out,HE.out,decide_eq_false g1,decide_eq_true g2];rfl
     go_wp2_with fail
     go_ret
     exact ⟨by rw [HF.out];rfl,HB2.out⟩
    ·by_cases g3:1000<qk.size
     ·have g3':(1000:Int)<qk.size:=by omega
      have HF:Hid (res=true):=by
       show _=_
       rw [← HRS.out,HE.out,decide_eq_false g1,decide_eq_false g2,decide_eq_true g3'];rfl
      go_wp2_with fail
      go_ret
      exact ⟨by rw [HF.out];rfl,HB2.out⟩
     ·have g3':¬ (1000:Int)<qk.size:=by omega
      have HN2:Hid (Zc4 (ps.drop (j+1))=res):=by
       show _=_
       rw [← HRS.out,HE.out,decide_eq_false g1,decide_eq_false g2,decide_eq_false g3'];rfl
      go_wp2_with fail
      go_roundw
      case rel=>exact ⟨j+1,by omega,by go_num,HB2.out,HN2.out⟩
      case measure=>simp [intOf];omega
  ·have hlt':¬ (j:Int)<m:=by omega
   have HF:Hid (res=false):=by
    show _=_
    rw [← HRS.out,List.drop_of_length_le (by have:=HM.out;omega)];rfl
   go_wp2_with fail
   go_ret
   exact ⟨by rw [HF.out];rfl,HB.out⟩
end
section
open Go.RowKit Go.Shelf Go.WideShapes
set_option maxHeartbeats 8000000
set_option maxRecDepth 100000
set_option linter.all false
noncomputable def RV6  : Array Oper:=Jg Tryz.f9 6
def LV6  : List Sig:=[⟨22,.fieldAddr 25 (.tmp 1) 0,0,none⟩,⟨23,.load 22 (.tmp 22),22,none⟩,⟨24,.move (.tmp 3),3,none⟩,⟨25,.indexAddr 22 (.tmp 23) (.tmp 24),0,none⟩,⟨26,.fieldAddr 47 (.tmp 25) 1,0,none⟩,⟨27,.load 44 (.tmp 26),44,none⟩,⟨28,.call { callee:=.builtin .len,args:=#[.tmp 27],argTypes:=#[44] },3,none⟩,⟨29,.fieldAddr 25 (.tmp 1) 0,0,none⟩,⟨30,.load 22 (.tmp 29),22,none⟩,⟨31,.move (.tmp 3),3,none⟩,⟨32,.indexAddr 22 (.tmp 30) (.tmp 31),0,none⟩,⟨33,.fieldAddr 47 (.tmp 32) 2,0,none⟩,⟨34,.load 45 (.tmp 33),45,none⟩,⟨35,.call { callee:=.builtin .len,args:=#[.tmp 34],argTypes:=#[45] },3,none⟩,⟨36,.binOp .add 3 (.tmp 28) (.tmp 35) 3,3,none⟩,⟨37,.binOp .gtr 3 (.tmp 36) (.const (.int .i64 12)) 3,4,none⟩,⟨38,.move (.tmp 37),4,none⟩,⟨39,.fieldAddr 25 (.tmp 1) 0,0,some (16,false)⟩,⟨40,.load 22 (.tmp 39),22,some (16,false)⟩,⟨41,.move (.tmp 3),3,some (16,false)⟩,⟨42,.indexAddr 22 (.tmp 40) (.tmp 41),0,some (16,false)⟩,⟨43,.fieldAddr 47 (.tmp 42) 2,0,some (16,false)⟩,⟨44,.load 45 (.tmp 43),45,some (16,false)⟩,⟨45,.call { callee:=.value (.func 31),args:=#[.tmp 44],argTypes:=#[45] },4,some (16,false)⟩,⟨46,.pick (.tmp 38) (.const (.bool true)) (.tmp 45),4,none⟩]
theorem Je5  : Jq RV6=LV6.map some:=by kernel_rfl
def AV6  : List (List Nat):=[[],[0],[],[1,2],[3],[4],[5],[],[7],[],[8,9],[10],[11],[12],[6,13],[14],[15],[16],[16,17],[16],[16,18,19],[16,20],[16,21],[16,22],[16,23]]
structure Zjd (G bl off kl kc j:Nat) (la:Option Addr) (ll lc:Nat) (pa:Option Addr) (pl pc:Nat) (c:Act):Prop where
 t1:c.eval (.tmp 1)=.pointer (some ⟨G,0,none⟩)
 t3:c.eval (.tmp 3)=.int .i64 (j:Int)
def VVA (G bl off kl kc j:Nat) (la:Option Addr) (ll lc:Nat) (pa:Option Addr) (pl pc:Nat):List Value:=[.pointer (some ⟨G,0,none⟩),.slice (some ⟨bl,off,none⟩) kl kc,.int .i64 (j:Int),.pointer (some ⟨bl,off+j*3,none⟩),.pointer (some ⟨bl,off+j*3+1,none⟩),.slice la ll lc,.int .i64 (ll:Int),.pointer (some ⟨G,0,none⟩),.slice (some ⟨bl,off,none⟩) kl kc,.int .i64 (j:Int),.pointer (some ⟨bl,off+j*3,none⟩),.pointer (some ⟨bl,off+j*3+2,none⟩),.slice pa pl pc,.int .i64 (pl:Int),.int .i64 ((ll:Int)+(pl:Int)),.bool true,.bool true,undef,undef,undef,undef,undef,undef,undef,.bool true]
structure Zth (G bl off kl kc j:Nat) (la:Option Addr) (ll lc:Nat) (pa:Option Addr) (pl pc:Nat) (w:World):Prop where
 g0:w.cell? ⟨G,0,none⟩=some (.slice (some ⟨bl,off,none⟩) kl kc)
 lt:j<kl
 le:kl≤9223372036854775807
 c1:w.cell? ⟨bl,off+j*3+1,none⟩=some (.slice la ll lc)
 c2:w.cell? ⟨bl,off+j*3+2,none⟩=some (.slice pa pl pc)
 ks:IntKind.i64.wrap ((ll:Int)+(pl:Int))=(ll:Int)+(pl:Int)
 a1:decide ((12:Int)<(ll:Int)+(pl:Int))=true
theorem Zwv (G bl off kl kc j:Nat) (la:Option Addr) (ll lc:Nat) (pa:Option Addr) (pl pc:Nat) (Q:Exit→Act→World→Prop) (base:Act) (w0:World) (hsz:base.tmps.size=71) (hb:Zjd G bl off kl kc j la ll lc pa pl pc base)
  (hW:∀ w,Below w0.heap.size w0 w→Zth G bl off kl kc j la ll lc pa pl pc w) (hQ:∀ c w,Zae RV6 base c→Below w0.heap.size w0 w→c.eval (.tmp 46)=.bool true→Q .normal c w):(Code.region 6 RV6 true).wp Tryz.prog Q base w0:=by
 refine Zr (B:=Zjd G bl off kl kc j la ll lc pa pl pc) (T:=Zth G bl off kl kc j la ll lc pa pl pc) (n:=25) (k:=24) LV6 AV6 (VVA G bl off kl kc j la ll lc pa pl pc) Je5 rfl (by kernel_rfl) (by kernel_rfl) (by kernel_rfl) (by rw [hsz];kernel_rfl) (fun c hS=>⟨(Zc hS (by kernel_rfl)).trans hb.t1,(Zc hS (by kernel_rfl)).trans hb.t3⟩) hW ?_ (by decide) rfl rfl hQ
 clear hsz hb hW hQ
 iterate 25 (refine Zd ?_ (by
  intro c w hb hW hEq
  obtain ⟨t1,t3⟩:=hb
  obtain ⟨g0,lt,le,c1,c2,ks,a1⟩:=hW
  have ec:=evc c
  have ef:=evf c
  dsimp only [AV6,LV6,VVA,nth,Zcm,Zbd,Jl] at hEq ⊢
  first
  | exact ⟨by first | exact hEq.1 | exact hEq.2.1 | exact hEq.2.2.1 | exact hEq.2.2.2.1,.inr ⟨by first | exact .inl rfl | exact .inr rfl,rfl⟩⟩
  | ((try refine ⟨by first | exact hEq.1 | exact hEq.2.1 | exact hEq.2.2.1 | exact hEq.2.2.2.1,.inl ⟨rfl,?_⟩⟩);first | (refine .inl fun pos af=>?_;(dsimp only [Sig.oper];generalize c.eval=ρ at *;go_simp;done)) | (refine .inl fun pos af=>?_;dsimp only [Sig.oper];generalize c.eval=ρ at *;go_simp;simp only [decide_eq_true_eq,decide_eq_false_iff_not] at *;omega))))
 exact Zj
def VVB (G bl off kl kc j:Nat) (la:Option Addr) (ll lc:Nat) (pa:Option Addr) (pl pc:Nat):List Value:=[.pointer (some ⟨G,0,none⟩),.slice (some ⟨bl,off,none⟩) kl kc,.int .i64 (j:Int),.pointer (some ⟨bl,off+j*3,none⟩),.pointer (some ⟨bl,off+j*3+1,none⟩),.slice la ll lc,.int .i64 (ll:Int),.pointer (some ⟨G,0,none⟩),.slice (some ⟨bl,off,none⟩) kl kc,.int .i64 (j:Int),.pointer (some ⟨bl,off+j*3,none⟩),.pointer (some ⟨bl,off+j*3+2,none⟩),.slice pa pl pc,.int .i64 (pl:Int),.int .i64 ((ll:Int)+(pl:Int)),.bool false,.bool false,.pointer (some ⟨G,0,none⟩),.slice (some ⟨bl,off,none⟩) kl kc,.int .i64 (j:Int),.pointer (some ⟨bl,off+j*3,none⟩),.pointer (some ⟨bl,off+j*3+2,none⟩),.slice pa pl pc,.bool true,.bool true]
structure Zti (G bl off kl kc j:Nat) (la:Option Addr) (ll lc:Nat) (pa:Option Addr) (pl pc:Nat) (w:World):Prop where
 g0:w.cell? ⟨G,0,none⟩=some (.slice (some ⟨bl,off,none⟩) kl kc)
 lt:j<kl
 le:kl≤9223372036854775807
 c1:w.cell? ⟨bl,off+j*3+1,none⟩=some (.slice la ll lc)
 c2:w.cell? ⟨bl,off+j*3+2,none⟩=some (.slice pa pl pc)
 ks:IntKind.i64.wrap ((ll:Int)+(pl:Int))=(ll:Int)+(pl:Int)
 a1:decide ((12:Int)<(ll:Int)+(pl:Int))=false
 k1:Calls Tryz.prog 31 #[.slice pa pl pc] w fun e w'=>e=.returned (.bool true)∧Below w.heap.size w w'
theorem Zww (G bl off kl kc j:Nat) (la:Option Addr) (ll lc:Nat) (pa:Option Addr) (pl pc:Nat) (Q:Exit→Act→World→Prop) (base:Act) (w0:World) (hsz:base.tmps.size=71) (hb:Zjd G bl off kl kc j la ll lc pa pl pc base)
  (hW:∀ w,Below w0.heap.size w0 w→Zti G bl off kl kc j la ll lc pa pl pc w) (hQ:∀ c w,Zae RV6 base c→Below w0.heap.size w0 w→c.eval (.tmp 46)=.bool true→Q .normal c w):(Code.region 6 RV6 true).wp Tryz.prog Q base w0:=by
 refine Zr (B:=Zjd G bl off kl kc j la ll lc pa pl pc) (T:=Zti G bl off kl kc j la ll lc pa pl pc) (n:=25) (k:=24) LV6 AV6 (VVB G bl off kl kc j la ll lc pa pl pc) Je5 rfl (by kernel_rfl) (by kernel_rfl) (by kernel_rfl) (by rw [hsz];kernel_rfl) (fun c hS=>⟨(Zc hS (by kernel_rfl)).trans hb.t1,(Zc hS (by kernel_rfl)).trans hb.t3⟩) hW ?_ (by decide) rfl rfl hQ
 clear hsz hb hW hQ
 iterate 25 (refine Zd ?_ (by
  intro c w hb hW hEq
  obtain ⟨t1,t3⟩:=hb
  obtain ⟨g0,lt,le,c1,c2,ks,a1,k1⟩:=hW
  have ec:=evc c
  have ef:=evf c
  dsimp only [AV6,LV6,VVB,nth,Zcm,Zbd,Jl] at hEq ⊢
  first
  | exact ⟨by first | exact hEq.1 | exact hEq.2.1 | exact hEq.2.2.1 | exact hEq.2.2.2.1,.inr ⟨by first | exact .inl rfl | exact .inr rfl,rfl⟩⟩
  | ((try refine ⟨by first | exact hEq.1 | exact hEq.2.1 | exact hEq.2.2.1 | exact hEq.2.2.2.1,.inl ⟨rfl,?_⟩⟩);first | (refine Zm Tryz.call31 k1 ?_;simp only [List.map_toArray,List.map_cons,List.map_nil,hEq];done) | (refine .inl fun pos af=>?_;(clear k1;dsimp only [Sig.oper];generalize c.eval=ρ at *;go_simp;done)) | (refine .inl fun pos af=>?_;clear k1;dsimp only [Sig.oper];generalize c.eval=ρ at *;go_simp;simp only [decide_eq_true_eq,decide_eq_false_iff_not] at *;omega))))
 exact Zj
def VVC (G bl off kl kc j:Nat) (la:Option Addr) (ll lc:Nat) (pa:Option Addr) (pl pc:Nat):List Value:=[.pointer (some ⟨G,0,none⟩),.slice (some ⟨bl,off,none⟩) kl kc,.int .i64 (j:Int),.pointer (some ⟨bl,off+j*3,none⟩),.pointer (some ⟨bl,off+j*3+1,none⟩),.slice la ll lc,.int .i64 (ll:Int),.pointer (some ⟨G,0,none⟩),.slice (some ⟨bl,off,none⟩) kl kc,.int .i64 (j:Int),.pointer (some ⟨bl,off+j*3,none⟩),.pointer (some ⟨bl,off+j*3+2,none⟩),.slice pa pl pc,.int .i64 (pl:Int),.int .i64 ((ll:Int)+(pl:Int)),.bool false,.bool false,.pointer (some ⟨G,0,none⟩),.slice (some ⟨bl,off,none⟩) kl kc,.int .i64 (j:Int),.pointer (some ⟨bl,off+j*3,none⟩),.pointer (some ⟨bl,off+j*3+2,none⟩),.slice pa pl pc,.bool false,.bool false]
structure Ztj (G bl off kl kc j:Nat) (la:Option Addr) (ll lc:Nat) (pa:Option Addr) (pl pc:Nat) (w:World):Prop where
 g0:w.cell? ⟨G,0,none⟩=some (.slice (some ⟨bl,off,none⟩) kl kc)
 lt:j<kl
 le:kl≤9223372036854775807
 c1:w.cell? ⟨bl,off+j*3+1,none⟩=some (.slice la ll lc)
 c2:w.cell? ⟨bl,off+j*3+2,none⟩=some (.slice pa pl pc)
 ks:IntKind.i64.wrap ((ll:Int)+(pl:Int))=(ll:Int)+(pl:Int)
 a1:decide ((12:Int)<(ll:Int)+(pl:Int))=false
 k1:Calls Tryz.prog 31 #[.slice pa pl pc] w fun e w'=>e=.returned (.bool false)∧Below w.heap.size w w'
theorem Zwx (G bl off kl kc j:Nat) (la:Option Addr) (ll lc:Nat) (pa:Option Addr) (pl pc:Nat) (Q:Exit→Act→World→Prop) (base:Act) (w0:World) (hsz:base.tmps.size=71) (hb:Zjd G bl off kl kc j la ll lc pa pl pc base)
  (hW:∀ w,Below w0.heap.size w0 w→Ztj G bl off kl kc j la ll lc pa pl pc w) (hQ:∀ c w,Zae RV6 base c→Below w0.heap.size w0 w→c.eval (.tmp 46)=.bool false→Q .normal c w):(Code.region 6 RV6 true).wp Tryz.prog Q base w0:=by
 refine Zr (B:=Zjd G bl off kl kc j la ll lc pa pl pc) (T:=Ztj G bl off kl kc j la ll lc pa pl pc) (n:=25) (k:=24) LV6 AV6 (VVC G bl off kl kc j la ll lc pa pl pc) Je5 rfl (by kernel_rfl) (by kernel_rfl) (by kernel_rfl) (by rw [hsz];kernel_rfl) (fun c hS=>⟨(Zc hS (by kernel_rfl)).trans hb.t1,(Zc hS (by kernel_rfl)).trans hb.t3⟩) hW ?_ (by decide) rfl rfl hQ
 clear hsz hb hW hQ
 iterate 25 (refine Zd ?_ (by
  intro c w hb hW hEq
  obtain ⟨t1,t3⟩:=hb
  obtain ⟨g0,lt,le,c1,c2,ks,a1,k1⟩:=hW
  have ec:=evc c
  have ef:=evf c
  dsimp only [AV6,LV6,VVC,nth,Zcm,Zbd,Jl] at hEq ⊢
  first
  | exact ⟨by first | exact hEq.1 | exact hEq.2.1 | exact hEq.2.2.1 | exact hEq.2.2.2.1,.inr ⟨by first | exact .inl rfl | exact .inr rfl,rfl⟩⟩
  | ((try refine ⟨by first | exact hEq.1 | exact hEq.2.1 | exact hEq.2.2.1 | exact hEq.2.2.2.1,.inl ⟨rfl,?_⟩⟩);first | (refine Zm Tryz.call31 k1 ?_;simp only [List.map_toArray,List.map_cons,List.map_nil,hEq];done) | (refine .inl fun pos af=>?_;(clear k1;dsimp only [Sig.oper];generalize c.eval=ρ at *;go_simp;done)) | (refine .inl fun pos af=>?_;clear k1;dsimp only [Sig.oper];generalize c.eval=ρ at *;go_simp;simp only [decide_eq_true_eq,decide_eq_false_iff_not] at *;omega))))
 exact Zj
attribute [local go_sem] Oper.semAt_some
def Zi1  : List Zp→Bool
 | []=>false
 | n::r=>decide ((12:Int)<(n.labels.length:Int)+(n.props.length:Int))||(Zc4 n.props||Zi1 r)
def Zfu  : List Jj→Bool
 | []=>false
 | n::r=>decide ((12:Int)<(n.props.length:Int))||(Zc4 n.props||Zfu r)
def Zng (g:Zy):Bool:=decide ((60:Int)<(g.nodes.length:Int))||(decide ((60:Int)<(g.rels.length:Int))||(Zi1 g.nodes||Zfu g.rels))
theorem Zwy {ns:List Zp} {j:Nat} {n:Zp} (h:ns[j]?=some n):Zi1 (ns.drop j)=(decide ((12:Int)<(n.labels.length:Int)+(n.props.length:Int))||(Zc4 n.props||Zi1 (ns.drop (j+1)))):=by
 obtain ⟨hj,hx⟩:=List.getElem?_eq_some_iff.1 h
 rw [List.drop_eq_getElem_cons hj,hx,Zi1]
theorem Zwz {ns:List Jj} {j:Nat} {n:Jj} (h:ns[j]?=some n):Zfu (ns.drop j)=(decide ((12:Int)<(n.props.length:Int))||(Zc4 n.props||Zfu (ns.drop (j+1)))):=by
 obtain ⟨hj,hx⟩:=List.getElem?_eq_some_iff.1 h
 rw [List.drop_eq_getElem_cons hj,hx,Zfu]
structure Jgc (g:Zy):Prop where
 ofNode:∀ n ∈ g.nodes,n.labels.length≤2000000∧n.props.length≤2000000∧∀ q ∈ n.props,q.2.total≤2000000
 ofRel:∀ r ∈ g.rels,∀ q ∈ r.props,q.2.total≤2000000
theorem Zo7 (g:Zy) (B:Nat) (v:Value) (w:World) (hB:B≤w.heap.size) (hg:Zq B w v g) (hz:Jgc g):Calls Tryz.prog 9 #[v] w fun e w'=>e=.returned (.bool (Zng g))∧Below w.heap.size w w':=by
 obtain ⟨na,nc,ra,rc,rfl,hn,hr⟩:=hg
 obtain ⟨hz1,hz2⟩:=hz
 obtain ⟨res,hres⟩:∃ r,Zng g=r:=⟨_,rfl⟩
 have HR0:=Zb hres
 rw [hres]
 clear hres
 obtain ⟨ns,rs,nn,nr⟩:=g
 simp only at hn hr hz1 hz2 ⊢
 obtain ⟨a',c',e1,h1,h2,hp3⟩:=hn
 obtain ⟨rfl,rfl⟩:na=a'∧nc=c':=by injection e1 with e1 _ e2;exact ⟨e1,e2⟩
 obtain ⟨a',c',e2,r1,r2,hq3⟩:=hr
 obtain ⟨rfl,rfl⟩:ra=a'∧rc=c':=by injection e2 with e1 _ e2;exact ⟨e1,e2⟩
 have HP:=Zb hp3
 have HQ:=Zb hq3
 have HS1:=Zb hz1
 have HS2:=Zb hz2
 have HR:Hid ((decide ((60:Int)<(ns.length:Int))||(decide ((60:Int)<(rs.length:Int))||(Zi1 ns||Zfu rs)))=res):=HR0.out
 obtain ⟨n,hn⟩:∃ n,ns.length=n:=⟨_,rfl⟩
 have HN:=Zb hn
 obtain ⟨m,hm⟩:∃ m,rs.length=m:=⟨_,rfl⟩
 have HM:=Zb hm
 rw [hn] at h1
 rw [hm] at r1
 rw [hn,hm] at HR ⊢
 clear hp3 hq3 hz1 hz2 hn hm e1 e2 HR0
 have hle:n≤9223372036854775807:=by omega
 have hlm:m≤9223372036854775807:=by omega
 obtain ⟨W1,hW1⟩:∃ W1,w.alloc (.cells #[.slice na n nc,.slice ra m rc,.int .i64 nn,.int .i64 nr] 25)=W1:=⟨_,rfl⟩
 have hr1:=Zl w #[.slice na n nc,.slice ra m rc,.int .i64 nn,.int .i64 nr] 25
 rw [hW1] at hr1
 have hb1:Below w.heap.size w W1:=hW1▸(Below.refl _ _).alloc (Nat.le_refl _) _
 have HR1:=Zb hr1
 have HB1:=Zb hb1
 have HW1:=Zb hW1
 have q0:=hr1.cell 0 rfl
 have q1:=hr1.cell 1 rfl
 clear hb1 hW1 hr1
 go_enter Tryz.func9,Tryz.ntmps9
 go_upto_region 1 with fail
 rw [HW1.out]
 clear HW1
 by_cases t1:(60:Int)<(n:Int)
 ·have HF:Hid (res=true):=by
   show _=_
   rw [← HR.out,decide_eq_true t1];rfl
  go_wp2_with fail
  go_ret
  exact ⟨by rw [HF.out];rfl,HB1.out⟩
 ·by_cases t2:(60:Int)<(m:Int)
  ·have HF:Hid (res=true):=by
    show _=_
    rw [← HR.out,decide_eq_false t1,decide_eq_true t2];rfl
   go_wp2_with fail
   go_ret
   exact ⟨by rw [HF.out];rfl,HB1.out⟩
  ·have HR2:Hid ((Zi1 ns||Zfu rs)=res):=by
    show _=_
    rw [← HR.out,decide_eq_false t1,decide_eq_false t2];rfl
   go_wp2_with fail
   clear t1 t2 HR
   go_loopw [3] (fun i wr=>∃ j:Nat,j≤n∧i=.int .i64 j∧Below W1.heap.size W1 wr∧(Zi1 (ns.drop j)||Zfu rs)=res) (fun i _=>n - (intOf i).toNat)
   case atStart=>exact ⟨0,Nat.zero_le _,rfl,Below.refl _ _,HR2.out⟩
   case round =>
    obtain ⟨j,hj,rfl,hbr,hrs⟩:=hrel
    have HBR:=Zb hbr
    have HRS:=Zb hrs
    have hwz:w.heap.size<wr.heap.size:=by
     have:=HR1.out.lt
     have:=hbr.size
     omega
    have q0:=(HR1.out.below hbr HR1.out.lt).cell 0 rfl
    clear hbr hrs
    by_cases hlt:j<n
    ·have hlt':(j:Int)<n:=by omega
     obtain ⟨⟨xi,xl,xp⟩,hx⟩:∃ q,ns[j]?=some q:=⟨_,List.getElem?_eq_getElem (by have:=HN.out;omega)⟩
     have HX:=Zb hx
     obtain ⟨bl,off,rfl,hbl,hc⟩:=HP.out.resolve_left (by intro e;rw [e] at hx;simp at hx)
     have hbw:bl<wr.heap.size:=by omega
     have HBW:=Zb (Za HB1.out HBR.out)
     obtain ⟨la,lc,pv,⟨c0,c1,c2⟩,⟨hl1,hl2⟩,hk,hp⟩:=(hc j _ hx).below (HBW.out.mono hB) hbl
     obtain ⟨hx1,hx2,hxp⟩:=HS1.out _ (List.mem_of_getElem? hx)
     simp only at c0 c1 c2 hp hx1 hx2 hxp
     have HK1:=Zb (fun W (hb:Below wr.heap.size wr W)=>Zmr pv xp B W (by have:=hb.size;omega) (hp.below (hb.mono (by omega))) hxp)
     obtain ⟨pa,pc,rfl,_,_,_⟩:=hp
     have HKS:Hid (IntKind.i64.wrap ((xl.length:Int)+(xp.length:Int))=(xl.length:Int)+(xp.length:Int)):=by
      show _=_
      rw [IntKind.wrap_i64];omega
     obtain ⟨bp,hbp⟩:∃ b,Zc4 xp=b:=⟨_,rfl⟩
     rw [hbp] at HK1
     have HE:Hid (res=((decide ((12:Int)<(xl.length:Int)+(xp.length:Int))||(bp||Zi1 (ns.drop (j+1))))||Zfu rs)):=by
      show _=_
      rw [← HRS.out,Zwy HX.out]
      simp only
      rw [hbp]
     have HC:Hid (∀ W,Below wr.heap.size wr W→W.cell? ⟨w.heap.size,0,none⟩=some (.slice (some ⟨bl,off,none⟩) n nc)∧W.cell? ⟨bl,off+j*3+1,none⟩=some (.slice la xl.length lc)∧W.cell? ⟨bl,off+j*3+2,none⟩=some (.slice pa xp.length pc)):=fun W hb =>
      ⟨(hb.cell (p:=⟨w.heap.size,0,none⟩) hwz).trans q0,(hb.cell (p:=⟨bl,off+j*3+1,none⟩) hbw).trans c1,(hb.cell (p:=⟨bl,off+j*3+2,none⟩) hbw).trans c2⟩
     clear hc hx hk hxp hbp hl1 hl2 hx1 hx2
     go_upto_region 6 with fail
     clear c0 c1 c2 q0
     show (Code.region 6 RV6 true).wp _ _ _ _
     by_cases a1:(12:Int)<(xl.length:Int)+(xp.length:Int)
     ·have HA1:=Zb (decide_eq_true a1)
      clear a1
      refine Zwv w.heap.size bl off n nc j la xl.length lc pa xp.length pc _ _ _ rfl ⟨rfl,rfl⟩ ?_ ?_
      ·intro W hW
       exact ⟨(HC.out W hW).1,hlt,hle,(HC.out W hW).2.1,(HC.out W hW).2.2,HKS.out,HA1.out⟩
      intro c W3 hS hB3 e46
      rw [Zs hS [22,23,24,25,26,27,28,29,30,31,32,33,34,35,36,37,38,39,40,41,42,43,44,45,46] (by kernel_rfl)]
      simp only [List.foldl_cons,List.foldl_nil,List.setIfInBounds_toArray,List.set_cons_succ,List.set_cons_zero,show Zcs c 46=_ from e46]
      clear e46 hS
      have HB3:=Zb (Za HBR.out hB3)
      clear hB3
      have HF:Hid (res=true):=by
       show _=_
       rw [HE.out,HA1.out];rfl
      go_wp2_with fail
      go_ret
      exact ⟨by rw [HF.out];rfl,Za HB1.out HB3.out⟩
     ·have HA1:=Zb (decide_eq_false a1)
      clear a1
      cases bp with
      | true =>
       refine Zww w.heap.size bl off n nc j la xl.length lc pa xp.length pc _ _ _ rfl ⟨rfl,rfl⟩ ?_ ?_
       ·intro W hW
        exact ⟨(HC.out W hW).1,hlt,hle,(HC.out W hW).2.1,(HC.out W hW).2.2,HKS.out,HA1.out,HK1.out W hW⟩
       intro c W3 hS hB3 e46
       rw [Zs hS [22,23,24,25,26,27,28,29,30,31,32,33,34,35,36,37,38,39,40,41,42,43,44,45,46] (by kernel_rfl)]
       simp only [List.foldl_cons,List.foldl_nil,List.setIfInBounds_toArray,List.set_cons_succ,List.set_cons_zero,show Zcs c 46=_ from e46]
       clear e46 hS
       have HB3:=Zb (Za HBR.out hB3)
       clear hB3
       have HF:Hid (res=true):=by
        show _=_
        rw [HE.out,HA1.out];rfl
       go_wp2_with fail
       go_ret
       exact ⟨by rw [HF.out];rfl,Za HB1.out HB3.out⟩
      | false =>
       refine Zwx w.heap.size bl off n nc j la xl.length lc pa xp.length pc _ _ _ rfl ⟨rfl,rfl⟩ ?_ ?_
       ·intro W hW
        exact ⟨(HC.out W hW).1,hlt,hle,(HC.out W hW).2.1,(HC.out W hW).2.2,HKS.out,HA1.out,HK1.out W hW⟩
       intro c W3 hS hB3 e46
       rw [Zs hS [22,23,24,25,26,27,28,29,30,31,32,33,34,35,36,37,38,39,40,41,42,43,44,45,46] (by kernel_rfl)]
       simp only [List.foldl_cons,List.foldl_nil,List.setIfInBounds_toArray,List.set_cons_succ,List.set_cons_zero,show Zcs c 46=_ from e46]
       clear e46 hS
       have HB3:=Zb (Za HBR.out hB3)
       clear hB3
       have HN2:Hid ((Zi1 (ns.drop (j+1))||Zfu rs)=res):=by
        show _=_
        rw [HE.out,HA1.out];rfl
       go_wp2_with fail
       go_roundw
       case rel=>exact ⟨j+1,by omega,by go_num,HB3.out,HN2.out⟩
       case measure=>simp [intOf];omega
    ·have HR3:Hid (Zfu rs=res):=by
      show _=_
      rw [← HRS.out,List.drop_of_length_le (by have:=HN.out;omega)];rfl
     have hlt':¬ (j:Int)<n:=by omega
     have HBA:=HBR
     go_wp2_with fail
     clear hlt hlt' HRS hj HBR q0 hwz
     go_loopw [4] (fun i wr=>∃ j:Nat,j≤m∧i=.int .i64 j∧Below W1.heap.size W1 wr∧Zfu (rs.drop j)=res) (fun i _=>m - (intOf i).toNat)
     case atStart=>exact ⟨0,Nat.zero_le _,rfl,HBA.out,HR3.out⟩
     case round =>
      clear HBA
      obtain ⟨j,hj,rfl,hbr,hrs⟩:=hrel
      have HBR:=Zb hbr
      have HRS:=Zb hrs
      have hwz:w.heap.size<wr.heap.size:=by
       have:=HR1.out.lt
       have:=hbr.size
       omega
      have q1:=(HR1.out.below hbr HR1.out.lt).cell 1 rfl
      clear hbr hrs
      by_cases hlt:j<m
      ·have hlt':(j:Int)<m:=by omega
       obtain ⟨⟨xi,fr,tt,ty,xp⟩,hx⟩:∃ q,rs[j]?=some q:=⟨_,List.getElem?_eq_getElem (by have:=HM.out;omega)⟩
       have HX:=Zb hx
       obtain ⟨bl,off,rfl,hbl,hc⟩:=HQ.out.resolve_left (by intro e;rw [e] at hx;simp at hx)
       have hbw:bl<wr.heap.size:=by omega
       have HBW:=Zb (Za HB1.out HBR.out)
       obtain ⟨pv,⟨c0,c1,c2,c3,c4⟩,_,hp⟩:=(hc j _ hx).below (HBW.out.mono hB) hbl
       have hxp:=HS2.out _ (List.mem_of_getElem? hx)
       simp only at c4 hp hxp
       have HK1:=Zb (Zmr pv xp B wr (by omega) hp hxp)
       obtain ⟨pa,pc,rfl,hp1,hp2,_⟩:=hp
       obtain ⟨bp,hbp⟩:∃ b,Zc4 xp=b:=⟨_,rfl⟩
       rw [hbp] at HK1
       have HE:Hid (res=(decide ((12:Int)<(xp.length:Int))||(bp||Zfu (rs.drop (j+1))))):=by
        show _=_
        rw [← HRS.out,Zwz HX.out]
        simp only
        rw [hbp]
       clear hc hx hxp hbp c0 c1 c2 c3
       by_cases a1:(12:Int)<(xp.length:Int)
       ·have HF:Hid (res=true):=by
         show _=_
         rw [HE.out,decide_eq_true a1];rfl
        go_wp2_with fail
        go_ret
        exact ⟨by rw [HF.out];rfl,Za HB1.out HBR.out⟩
       ·have HA1:=Zb (decide_eq_false a1)
        go_wp2_with fail
        refine HK1.out.mono ?_
        rintro e w2 ⟨rfl,hb2⟩
        have HB3:=Zb (Za HBR.out hb2)
        clear hb2
        cases bp with
        | true =>
         have HF:Hid (res=true):=by
          show _=_
          rw [HE.out,HA1.out];rfl
         go_wp2_with fail
         go_ret
         exact ⟨by rw [HF.out];rfl,Za HB1.out HB3.out⟩
        | false =>
         have HN2:Hid (Zfu (rs.drop (j+1))=res):=by
          show _=_
          rw [HE.out,HA1.out];rfl
         go_wp2_with fail
         go_roundw
         case rel=>exact ⟨j+1,by omega,by go_num,HB3.out,HN2.out⟩
         case measure=>simp [intOf];omega
      ·have HF:Hid (res=false):=by
        show _=_
        rw [← HRS.out,List.drop_of_length_le (by have:=HM.out;omega)];rfl
       have hlt':¬ (j:Int)<m:=by omega
       go_wp2_with fail
       go_ret
       exact ⟨by rw [HF.out];rfl,Za HB1.out HBR.out⟩
end
section
open Go.RowKit Go.Shelf
set_option linter.all false
attribute [local go_sem] Oper.semAt_some
structure Fit (g:Zy):Prop where
 bulk:Jgc g
 sized:Jc3 g
 mild:Zzr g
 sane:Jb9 g
 nn:-9223372036854775808≤g.nn∧g.nn≤9223372036854775807
 nr:-9223372036854775808≤g.nr∧g.nr≤9223372036854775807
 ends:∀ r ∈ g.rels,I64 r.fr∧I64 r.tt
 ofN:∀ x ∈ g.nodes,x.labels.length≤2000000∧x.props.length≤2000000∧∀ q ∈ x.props,q.2.total≤2000000
 ofR:∀ x ∈ g.rels,x.props.length≤2000000∧∀ q ∈ x.props,q.2.total≤2000000
end
