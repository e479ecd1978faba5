/- The same texts, the same properties: the program's word. -/
import Derived.Test.YteddjlbfbpecjaaGreatDoorJoin2
import Derived.Test.YteddjlbfbpecjaaGreatDoorJoin20
import Derived.Test.YteddjlbfbpecjaaGreatDoorJoin32
namespace Go.Proofs.YteddjlbfbpecjaaGreatDoor
open Go.RowKit Go.Shelf Go.WideShapes
set_option maxHeartbeats 8000000
set_option maxRecDepth 100000
set_option linter.unusedVariables false
set_option linter.unusedSimpArgs false
noncomputable def RSE  : Array Oper:=regionAt Tryz.f107 6
def LSE  : List Sig:=[⟨16,.move (.tmp 0),44,none⟩,⟨17,.move (.tmp 5),3,none⟩,⟨18,.indexAddr 44 (.tmp 16) (.tmp 17),0,none⟩,⟨19,.load 9 (.tmp 18),9,none⟩,⟨20,.move (.tmp 1),44,none⟩,⟨21,.move (.tmp 5),3,none⟩,⟨22,.indexAddr 44 (.tmp 20) (.tmp 21),0,none⟩,⟨23,.load 9 (.tmp 22),9,none⟩,⟨24,.binOp .neq 9 (.tmp 19) (.tmp 23) 9,4,none⟩]
theorem hLSE  : sigsOf RSE=LSE.map some:=by kernel_rfl
def ASE  : List (List Nat):=[[],[],[0,1],[2],[],[],[4,5],[6],[3,7]]
structure BaseSE (bl off kl kc bl2 off2 kl2 kc2 j:Nat) (x y:ByteArray) (c:Act):Prop where
 t0:c.eval (.tmp 0)=.slice (some ⟨bl,off,none⟩) kl kc
 t1:c.eval (.tmp 1)=.slice (some ⟨bl2,off2,none⟩) kl2 kc2
 t5:c.eval (.tmp 5)=.int .i64 (j:Int)
def VSEA (bl off kl kc bl2 off2 kl2 kc2 j:Nat) (x y:ByteArray):List Value:=[.slice (some ⟨bl,off,none⟩) kl kc,.int .i64 (j:Int),.pointer (some ⟨bl,off+j,none⟩),.string x,.slice (some ⟨bl2,off2,none⟩) kl2 kc2,.int .i64 (j:Int),.pointer (some ⟨bl2,off2+j,none⟩),.string y,.bool true]
structure WorldSEA (bl off kl kc bl2 off2 kl2 kc2 j:Nat) (x y:ByteArray) (w:World):Prop where
 lt:j<kl
 le:kl≤9223372036854775807
 cx:w.cell? ⟨bl,off+j,none⟩=some (.string x)
 lt2:j<kl2
 le2:kl2≤9223372036854775807
 cy:w.cell? ⟨bl2,off2+j,none⟩=some (.string y)
 a1:(!(x.toList==y.toList))=true
theorem regionSEA (bl off kl kc bl2 off2 kl2 kc2 j:Nat) (x y:ByteArray) (Q:Exit→Act→World→Prop) (base:Act) (w0:World) (hsz:base.tmps.size=26) (hb:BaseSE bl off kl kc bl2 off2 kl2 kc2 j x y base)
  (hW:∀ w,Below w0.heap.size w0 w→WorldSEA bl off kl kc bl2 off2 kl2 kc2 j x y w) (hQ:∀ c w,Same RSE base c→Below w0.heap.size w0 w→c.eval (.tmp 24)=.bool true→Q .normal c w):(Code.region 6 RSE true).wp Tryz.prog Q base w0:=by
 refine told_rule (B:=BaseSE bl off kl kc bl2 off2 kl2 kc2 j x y) (T:=WorldSEA bl off kl kc bl2 off2 kl2 kc2 j x y) (n:=9) (k:=8) LSE ASE (VSEA bl off kl kc bl2 off2 kl2 kc2 j x y) hLSE rfl (by kernel_rfl) (by kernel_rfl) (by kernel_rfl) (by rw [hsz];kernel_rfl) (fun c hS=>⟨(same_eval hS (by kernel_rfl)).trans hb.t0,(same_eval hS (by kernel_rfl)).trans hb.t1,(same_eval hS (by kernel_rfl)).trans hb.t5⟩) hW ?_ (by decide) rfl rfl hQ
 clear hsz hb hW hQ
 iterate 9 (refine below_succ ?_ (by
  intro c w hb hW hEq
  obtain ⟨t0,t1,t5⟩:=hb
  obtain ⟨lt,le,cx,lt2,le2,cy,a1⟩:=hW
  have ec:=evc c
  have ef:=evf c
  dsimp only [ASE,LSE,VSEA,nth,EqAt,look,OpGoal] at hEq ⊢
  first
  | exact ⟨by first | exact hEq.1 | exact hEq.2.1 | exact hEq.2.2.1 | exact hEq.2.2.2.1,.inr ⟨.inl rfl,rfl⟩⟩
  | exact ⟨by first | exact hEq.1 | exact hEq.2.1 | exact hEq.2.2.1 | exact hEq.2.2.2.1,.inr ⟨.inr rfl,rfl⟩⟩
  | ((try refine ⟨by first | exact hEq.1 | exact hEq.2.1 | exact hEq.2.2.1 | exact hEq.2.2.2.1,.inl ⟨rfl,?_⟩⟩);first | (refine .inl fun pos af=>?_;(dsimp only [Sig.oper];generalize c.eval=ρ at *;go_simp;done)) | (refine .inl fun pos af=>?_;dsimp only [Sig.oper];generalize c.eval=ρ at *;go_simp;simp only [decide_eq_true_eq,decide_eq_false_iff_not] at *;omega))))
 exact below_zero
def VSEB (bl off kl kc bl2 off2 kl2 kc2 j:Nat) (x y:ByteArray):List Value:=[.slice (some ⟨bl,off,none⟩) kl kc,.int .i64 (j:Int),.pointer (some ⟨bl,off+j,none⟩),.string x,.slice (some ⟨bl2,off2,none⟩) kl2 kc2,.int .i64 (j:Int),.pointer (some ⟨bl2,off2+j,none⟩),.string y,.bool false]
structure WorldSEB (bl off kl kc bl2 off2 kl2 kc2 j:Nat) (x y:ByteArray) (w:World):Prop where
 lt:j<kl
 le:kl≤9223372036854775807
 cx:w.cell? ⟨bl,off+j,none⟩=some (.string x)
 lt2:j<kl2
 le2:kl2≤9223372036854775807
 cy:w.cell? ⟨bl2,off2+j,none⟩=some (.string y)
 a1:(!(x.toList==y.toList))=false
theorem regionSEB (bl off kl kc bl2 off2 kl2 kc2 j:Nat) (x y:ByteArray) (Q:Exit→Act→World→Prop) (base:Act) (w0:World) (hsz:base.tmps.size=26) (hb:BaseSE bl off kl kc bl2 off2 kl2 kc2 j x y base)
  (hW:∀ w,Below w0.heap.size w0 w→WorldSEB bl off kl kc bl2 off2 kl2 kc2 j x y w) (hQ:∀ c w,Same RSE base c→Below w0.heap.size w0 w→c.eval (.tmp 24)=.bool false→Q .normal c w):(Code.region 6 RSE true).wp Tryz.prog Q base w0:=by
 refine told_rule (B:=BaseSE bl off kl kc bl2 off2 kl2 kc2 j x y) (T:=WorldSEB bl off kl kc bl2 off2 kl2 kc2 j x y) (n:=9) (k:=8) LSE ASE (VSEB bl off kl kc bl2 off2 kl2 kc2 j x y) hLSE rfl (by kernel_rfl) (by kernel_rfl) (by kernel_rfl) (by rw [hsz];kernel_rfl) (fun c hS=>⟨(same_eval hS (by kernel_rfl)).trans hb.t0,(same_eval hS (by kernel_rfl)).trans hb.t1,(same_eval hS (by kernel_rfl)).trans hb.t5⟩) hW ?_ (by decide) rfl rfl hQ
 clear hsz hb hW hQ
 iterate 9 (refine below_succ ?_ (by
  intro c w hb hW hEq
  obtain ⟨t0,t1,t5⟩:=hb
  obtain ⟨lt,le,cx,lt2,le2,cy,a1⟩:=hW
  have ec:=evc c
  have ef:=evf c
  dsimp only [ASE,LSE,VSEB,nth,EqAt,look,OpGoal] at hEq ⊢
  first
  | exact ⟨by first | exact hEq.1 | exact hEq.2.1 | exact hEq.2.2.1 | exact hEq.2.2.2.1,.inr ⟨.inl rfl,rfl⟩⟩
  | exact ⟨by first | exact hEq.1 | exact hEq.2.1 | exact hEq.2.2.1 | exact hEq.2.2.2.1,.inr ⟨.inr rfl,rfl⟩⟩
  | ((try refine ⟨by first | exact hEq.1 | exact hEq.2.1 | exact hEq.2.2.1 | exact hEq.2.2.2.1,.inl ⟨rfl,?_⟩⟩);first | (refine .inl fun pos af=>?_;(dsimp only [Sig.oper];generalize c.eval=ρ at *;go_simp;done)) | (refine .inl fun pos af=>?_;dsimp only [Sig.oper];generalize c.eval=ρ at *;go_simp;simp only [decide_eq_true_eq,decide_eq_false_iff_not] at *;omega))))
 exact below_zero
attribute [local go_sem] Oper.semAt_some
def propsSame  : List (ByteArray × Tree)→List (ByteArray × Tree)→Bool
 | [],_=>true
 | _::_,[]=>true
 | p::r,q::r'=>((p.1.toList==q.1.toList)&&sameB p.2 q.2)&&propsSame r r'
def samePropsP (a b:List (ByteArray × Tree)):Bool:=!((a.length:Int) != (b.length:Int))&&propsSame a b
theorem propsSame_at {ks ks':List (ByteArray × Tree)} {j:Nat} {x y:ByteArray × Tree} (h:ks[j]?=some x) (h':ks'[j]?=some y):propsSame (ks.drop j) (ks'.drop j)=(((x.1.toList==y.1.toList)&&sameB x.2 y.2)&&propsSame (ks.drop (j+1)) (ks'.drop (j+1))):=by
 obtain ⟨hj,hx⟩:=List.getElem?_eq_some_iff.1 h
 obtain ⟨hj',hx'⟩:=List.getElem?_eq_some_iff.1 h'
 rw [List.drop_eq_getElem_cons hj,hx,List.drop_eq_getElem_cons hj',hx',propsSame]
def sameNodeP (a b:NodeP):Bool:=(a.id==b.id)&&(sameTextsB a.labels b.labels&&samePropsP a.props b.props)
def sameRelP (a b:RelP):Bool:=(a.id==b.id)&&((a.fr==b.fr)&&((a.tt==b.tt)&&((a.type.toList==b.type.toList)&&samePropsP a.props b.props)))
def nodesSame  : List NodeP→List NodeP→Bool
 | [],_=>true
 | _::_,[]=>true
 | p::r,q::r'=>sameNodeP p q&&nodesSame r r'
def relsSame  : List RelP→List RelP→Bool
 | [],_=>true
 | _::_,[]=>true
 | p::r,q::r'=>sameRelP p q&&relsSame r r'
def sameNodesP (a b:List NodeP):Bool:=!((a.length:Int) != (b.length:Int))&&nodesSame a b
def sameRelsP (a b:List RelP):Bool:=!((a.length:Int) != (b.length:Int))&&relsSame a b
theorem nodesSame_at {ks ks':List NodeP} {j:Nat} {x y:NodeP} (h:ks[j]?=some x) (h':ks'[j]?=some y):nodesSame (ks.drop j) (ks'.drop j)=(sameNodeP x y&&nodesSame (ks.drop (j+1)) (ks'.drop (j+1))):=by
 obtain ⟨hj,hx⟩:=List.getElem?_eq_some_iff.1 h
 obtain ⟨hj',hx'⟩:=List.getElem?_eq_some_iff.1 h'
 rw [List.drop_eq_getElem_cons hj,hx,List.drop_eq_getElem_cons hj',hx',nodesSame]
theorem relsSame_at {ks ks':List RelP} {j:Nat} {x y:RelP} (h:ks[j]?=some x) (h':ks'[j]?=some y):relsSame (ks.drop j) (ks'.drop j)=(sameRelP x y&&relsSame (ks.drop (j+1)) (ks'.drop (j+1))):=by
 obtain ⟨hj,hx⟩:=List.getElem?_eq_some_iff.1 h
 obtain ⟨hj',hx'⟩:=List.getElem?_eq_some_iff.1 h'
 rw [List.drop_eq_getElem_cons hj,hx,List.drop_eq_getElem_cons hj',hx',relsSame]
theorem equalS_any (ks ks':List ByteArray) (B:Nat) (ka ka2:Option Addr) (kc kc2:Nat) (w:World) (hB:B≤w.heap.size) (hk:KeysLie B w ka ks) (hk':KeysLie B w ka2 ks') (h1:ks.length≤kc) (h2:kc≤9223372036854775807) (g1:ks'.length≤kc2) (g2:kc2≤9223372036854775807) :
  Calls Tryz.prog 107 #[.slice ka ks.length kc,.slice ka2 ks'.length kc2] w fun e w'=>e=.returned (.bool (sameTextsB ks ks'))∧Below w.heap.size w w':=by
 have HKK:=hidE (And.intro hk hk')
 obtain ⟨res,hres⟩:∃ r,sameTextsB ks ks'=r:=⟨_,rfl⟩
 rw [hres]
 unfold sameTextsB at hres
 have HR:=hidE hres
 obtain ⟨n,hn⟩:∃ n,ks.length=n:=⟨_,rfl⟩
 obtain ⟨n2,hn2⟩:∃ n,ks'.length=n:=⟨_,rfl⟩
 have HN1:=hidE hn
 have HN2:=hidE hn2
 rw [hn] at h1
 rw [hn2] at g1
 rw [hn,hn2] at HR
 rw [hn,hn2]
 clear hk hk' hres hn hn2
 go_enter Tryz.func107,Tryz.ntmps107
 by_cases b5:((n:Int) != (n2:Int))=true
 ·have HF:Hid (res=false):=by
   show _=_
   rw [← HR.out,b5];rfl
  go_wp2_with fail
  go_ret
  exact ⟨by rw [HF.out];rfl,Below.refl _ _⟩
 ·have z5:((n:Int) != (n2:Int))=false:=by simpa using b5
  clear b5
  have HR2:Hid (textsB ks ks'=res):=by
   show _=_
   rw [← HR.out,z5];rfl
  have HEQ:Hid (n=n2):=by
   have a:=z5
   simp at a
   show _=_
   omega
  go_wp2_with fail
  clear HR z5
  obtain rfl:=HEQ.out
  clear HEQ
  go_loopw [13] (fun i wr=>∃ j:Nat,j≤n∧i=.int .i64 j∧Below w.heap.size w wr∧textsB (ks.drop j) (ks'.drop j)=res) (fun i _=>n - (intOf i).toNat)
  case atStart=>exact ⟨0,Nat.zero_le _,rfl,Below.refl _ _,HR2.out⟩
  case round =>
   obtain ⟨j,hj,rfl,hbr,hrs⟩:=hrel
   have HBR:=hidE hbr
   have HRS:=hidE hrs
   have hwz:w.heap.size≤wr.heap.size:=hbr.size
   clear hbr hrs
   by_cases hlt:j<n
   ·have hlt':(j:Int)<n:=by omega
    obtain ⟨xk,hx⟩:∃ q,ks[j]?=some q:=⟨_,List.getElem?_eq_getElem (by have:=HN1.out;omega)⟩
    obtain ⟨yk,hy⟩:∃ q,ks'[j]?=some q:=⟨_,List.getElem?_eq_getElem (by have:=HN2.out;omega)⟩
    obtain ⟨bl,off,rfl,hbl,hc⟩:=(HKK.out.1.below (HBR.out.mono hB)).resolve_left (by intro e;rw [e] at hx;simp at hx)
    obtain ⟨bl2,off2,rfl,hbl2,hc2⟩:=(HKK.out.2.below (HBR.out.mono hB)).resolve_left (by intro e;rw [e] at hy;simp at hy)
    have cx:=(hc j (by have:=HN1.out;omega)).1
    have cy:=(hc2 j (by have:=HN2.out;omega)).1
    rw [List.getD_eq_getElem?_getD,hx] at cx
    rw [List.getD_eq_getElem?_getD,hy] at cy
    simp only [Option.getD_some] at cx cy
    have hbw:bl<wr.heap.size:=by omega
    have hbw2:bl2<wr.heap.size:=by omega
    have HE:Hid (res=((xk.toList==yk.toList)&&textsB (ks.drop (j+1)) (ks'.drop (j+1)))):=by
     show _=_
     rw [← HRS.out,textsB_at hx hy]
    clear hx hy hc hc2
    go_upto_region 6 with fail
    show (Code.region 6 RSE true).wp _ _ _ _
    obtain ⟨b,hb⟩:∃ b,(xk.toList==yk.toList)=b:=⟨_,rfl⟩
    cases b with
    | false =>
     have HA1:Hid ((!(xk.toList==yk.toList))=true):=by
      show _=_
      rw [hb];rfl
     have HA2:=hidE hb
     clear hb
     refine regionSEA bl off n kc bl2 off2 n kc2 j xk yk _ _ _ rfl ⟨rfl,rfl,rfl⟩ ?_ ?_
     ·intro W hW
      exact ⟨hlt,by omega,(hW.cell (p:=⟨bl,off+j,none⟩) hbw).trans cx,hlt,by omega,(hW.cell (p:=⟨bl2,off2+j,none⟩) hbw2).trans cy,HA1.out⟩
     intro c W3 hS hB3 e24
     rw [same_peek hS [16,17,18,19,20,21,22,23,24] (by kernel_rfl)]
     simp only [List.foldl_cons,List.foldl_nil,List.setIfInBounds_toArray,List.set_cons_succ,List.set_cons_zero,show peek c 24=_ from e24]
     clear e24 hS
     have HB3:=hidE (below_on HBR.out hB3)
     clear hB3
     have HF:Hid (res=false):=by
      show _=_
      rw [HE.out,HA2.out];rfl
     go_wp2_with fail
     go_ret
     exact ⟨by rw [HF.out];rfl,HB3.out⟩
    | true =>
     have HA1:Hid ((!(xk.toList==yk.toList))=false):=by
      show _=_
      rw [hb];rfl
     have HA2:=hidE hb
     clear hb
     refine regionSEB bl off n kc bl2 off2 n kc2 j xk yk _ _ _ rfl ⟨rfl,rfl,rfl⟩ ?_ ?_
     ·intro W hW
      exact ⟨hlt,by omega,(hW.cell (p:=⟨bl,off+j,none⟩) hbw).trans cx,hlt,by omega,(hW.cell (p:=⟨bl2,off2+j,none⟩) hbw2).trans cy,HA1.out⟩
     intro c W3 hS hB3 e24
     rw [same_peek hS [16,17,18,19,20,21,22,23,24] (by kernel_rfl)]
     simp only [List.foldl_cons,List.foldl_nil,List.setIfInBounds_toArray,List.set_cons_succ,List.set_cons_zero,show peek c 24=_ from e24]
     clear e24 hS
     have HB3:=hidE (below_on HBR.out hB3)
     clear hB3
     have HN2:Hid (textsB (ks.drop (j+1)) (ks'.drop (j+1))=res):=by
      show _=_
      rw [HE.out,HA2.out];rfl
     go_wp2_with fail
     go_roundw
     case rel=>exact ⟨j+1,by omega,by go_num,HB3.out,HN2.out⟩
     case measure=>simp [intOf];omega
   ·have HF:Hid (res=true):=by
     show _=_
     rw [← HRS.out,List.drop_of_length_le (by have:=HN1.out;omega)];rfl
    have hlt':¬ (j:Int)<n:=by omega
    go_wp2_with fail
    go_ret
    exact ⟨by rw [HF.out];rfl,HBR.out⟩
theorem lies_kinds {B:Nat} {w:World} {v0 v1 v2 v3 v4 v5:Value} {T:Tree} (h:Lies B w (.agg #[v0,v1,v2,v3,v4,v5]) T):∃ i0 b1 i2 s3 k4 k4n k4c l5 l5n l5c,v0=.int .i64 i0∧v1=.bool b1∧v2=.int .i64 i2∧v3=.string s3∧v4=.slice k4 k4n k4c∧v5=.slice l5 l5n l5c:=by
 obtain ⟨a,b,c,d,e,f⟩:=T
 simp only [Lies] at h
 obtain ⟨ka,kc,la',lc',e9,_⟩:=h
 injection e9 with e9
 have e9:=congrArg Array.toList e9
 simp only [List.cons.injEq,and_true] at e9
 obtain ⟨e0,e1,e2,e3,e4,e5⟩:=e9
 exact ⟨_,_,_,_,_,_,_,_,_,_,e0,e1,e2,e3,e4,e5⟩
def PropLies (B:Nat) (w:World) (v:Value) (q:ByteArray × Tree):Prop:=∃ v0 v1 v2 v3 v4 v5,v=.agg #[.string q.1,v0,v1,v2,v3,v4,v5]∧Lies B w (.agg #[v0,v1,v2,v3,v4,v5]) q.2
theorem PropLies.below {B:Nat} {w w':World} (h:Below B w w') {v:Value} {q:ByteArray × Tree} (hp:PropLies B w v q):PropLies B w' v q:=by
 obtain ⟨v0,v1,v2,v3,v4,v5,e,hl⟩:=hp
 exact ⟨v0,v1,v2,v3,v4,v5,e,hl.below h⟩
theorem sameProp_any (p q:ByteArray × Tree) (B:Nat) (v v':Value) (w:World) (hB:B≤w.heap.size) (hT:Tabs w) (hv:PropLies B w v p) (hv':PropLies B w v' q) (hm:Modest p.2) (hm':Modest q.2) :
  Calls Tryz.prog 109 #[v,v'] w fun e w'=>e=.returned (.bool ((p.1.toList==q.1.toList)&&sameB p.2 q.2))∧Below w.heap.size w w':=by
 obtain ⟨v0,v1,v2,v3,v4,v5,rfl,hl⟩:=hv
 obtain ⟨u0,u1,u2,u3,u4,u5,rfl,hl'⟩:=hv'
 have HS:=hidE (fun W (hb:Below w.heap.size w W)=>Same_any p.2 q.2 B _ _ W (Nat.le_trans hB hb.size) (hl.below (hb.mono hB)) (hl'.below (hb.mono hB)) (hT.below hb) hm hm')
 obtain ⟨i0,b1,i2,s3,k4,k4n,k4c,l5,l5n,l5c,rfl,rfl,rfl,rfl,rfl,rfl⟩:=lies_kinds hl
 obtain ⟨j0,d1,j2,t3,m4,m4n,m4c,n5,n5n,n5c,rfl,rfl,rfl,rfl,rfl,rfl⟩:=lies_kinds hl'
 obtain ⟨res,hres⟩:∃ r,((p.1.toList==q.1.toList)&&sameB p.2 q.2)=r:=⟨_,rfl⟩
 rw [hres]
 obtain ⟨x,T⟩:=p
 obtain ⟨y,T'⟩:=q
 simp only at HS hres ⊢
 obtain ⟨bs,hbs⟩:∃ b,sameB T T'=b:=⟨_,rfl⟩
 obtain ⟨bk,hbk⟩:∃ b,(x.toList==y.toList)=b:=⟨_,rfl⟩
 rw [hbs] at HS
 rw [hbs,hbk] at hres
 have HR:=hidE hres
 clear hl hl' hbs hT hm hm' hres
 go_enter Tryz.func109,Tryz.ntmps109
 go_upto_region 1 with fail
 generalize hW1:World.alloc _ _=W1
 have hr1:=(rec_new w #[.string x,.int .i64 i0,.bool b1,.int .i64 i2,.string s3,.slice k4 k4n k4c,.slice l5 l5n l5c] 79).alloc (.cells #[.string y,.int .i64 j0,.bool d1,.int .i64 j2,.string t3,.slice m4 m4n m4c,.slice n5 n5n n5c] 79)
 have hr2:=rec_new (w.alloc (.cells #[.string x,.int .i64 i0,.bool b1,.int .i64 i2,.string s3,.slice k4 k4n k4c,.slice l5 l5n l5c] 79)) #[.string y,.int .i64 j0,.bool d1,.int .i64 j2,.string t3,.slice m4 m4n m4c,.slice n5 n5n n5c] 79
 rw [hW1] at hr1 hr2
 rw [World.size_alloc] at hr2
 have HB1:Hid (Below w.heap.size w W1):=by rw [← hW1];exact ((Below.refl _ _).alloc (Nat.le_refl _) _).alloc (by simp) _
 have HC1:=hidE (HS.out W1 HB1.out)
 clear hW1
 have a0:=hr1.cell 0 rfl
 have c0:=hr2.cell 0 rfl
 have a1:=hr1.cell 1 rfl
 have c1:=hr2.cell 1 rfl
 have a2:=hr1.cell 2 rfl
 have c2:=hr2.cell 2 rfl
 have a3:=hr1.cell 3 rfl
 have c3:=hr2.cell 3 rfl
 have a4:=hr1.cell 4 rfl
 have c4:=hr2.cell 4 rfl
 have a5:=hr1.cell 5 rfl
 have c5:=hr2.cell 5 rfl
 have a6:=hr1.cell 6 rfl
 have c6:=hr2.cell 6 rfl
 clear hr1 hr2 HS
 cases bk with
 | false =>
  have HF:Hid (res=false):=by rw [← HR.out];rfl
  go_wp2_with fail
  go_ret
  exact ⟨by rw [HF.out];rfl,HB1.out⟩
 | true =>
  have HF:Hid (res=bs):=by rw [← HR.out];rfl
  go_wp2_with fail
  refine HC1.out.mono ?_
  rintro e w3 ⟨rfl,hb3⟩
  have HB3:=hidE (below_on HB1.out hb3)
  clear hb3
  go_wp2_with fail
  go_ret
  exact ⟨by rw [HF.out];rfl,HB3.out⟩
theorem PropAt.reg {B:Nat} {w:World} {bl off:Nat} {q:ByteArray × Tree} (h:PropAt B w bl off q):∃ v0 v1 v2 v3 v4 v5,(w.cell? ⟨bl,off,none⟩=some (.string q.1)∧w.cell? ⟨bl,off+1,none⟩=some v0∧w.cell? ⟨bl,off+2,none⟩=some v1∧w.cell? ⟨bl,off+3,none⟩=some v2∧w.cell? ⟨bl,off+4,none⟩=some v3∧w.cell? ⟨bl,off+5,none⟩=some v4∧w.cell? ⟨bl,off+6,none⟩=some v5)∧PropLies B w (.agg #[.string q.1,v0,v1,v2,v3,v4,v5]) q:=by
 obtain ⟨h0,h1,v0,v1,v2,v3,v4,v5,⟨c0,c1,c2,c3,c4,c5⟩,hv⟩:=h
 exact ⟨v0,v1,v2,v3,v4,v5,⟨h0,c0,c1,c2,c3,c4,c5⟩,v0,v1,v2,v3,v4,v5,rfl,hv⟩
theorem eqProps_any (ks ks':List (ByteArray × Tree)) (B:Nat) (ka ka2:Option Addr) (kc kc2:Nat) (w:World) (hB:B≤w.heap.size) (hT:Tabs w) (hk:PropsLie B w (.slice ka ks.length kc) ks) (hk':PropsLie B w (.slice ka2 ks'.length kc2) ks') (hm:∀ q ∈ ks,Modest q.2) (hm':∀ q ∈ ks',Modest q.2) :
  Calls Tryz.prog 108 #[.slice ka ks.length kc,.slice ka2 ks'.length kc2,.func (.func 109) #[] #[]] w fun e w'=>e=.returned (.bool (samePropsP ks ks'))∧Below w.heap.size w w':=by
 obtain ⟨a',c',e1,h1,h2,hp3⟩:=hk
 obtain ⟨rfl,rfl⟩:ka=a'∧kc=c':=by injection e1 with e1 _ e2;exact ⟨e1,e2⟩
 obtain ⟨a',c',e2,g1,g2,hq3⟩:=hk'
 obtain ⟨rfl,rfl⟩:ka2=a'∧kc2=c':=by injection e2 with e1 _ e2;exact ⟨e1,e2⟩
 have HKK:=hidE (And.intro hp3 hq3)
 have HTB:=hidE hT
 have HMM:=hidE (And.intro hm hm')
 have hk:=trivial
 have hk':=trivial
 clear hp3 hq3 e1 e2 hT hm hm'
 obtain ⟨res,hres⟩:∃ r,samePropsP ks ks'=r:=⟨_,rfl⟩
 rw [hres]
 unfold samePropsP at hres
 have HR:=hidE hres
 obtain ⟨n,hn⟩:∃ n,ks.length=n:=⟨_,rfl⟩
 obtain ⟨n2,hn2⟩:∃ n,ks'.length=n:=⟨_,rfl⟩
 have HN1:=hidE hn
 have HN2:=hidE hn2
 rw [hn] at h1
 rw [hn2] at g1
 rw [hn,hn2] at HR
 rw [hn,hn2]
 clear hk hk' hres hn hn2
 go_enter Tryz.func108,Tryz.ntmps108
 by_cases b5:((n:Int) != (n2:Int))=true
 ·have HF:Hid (res=false):=by
   show _=_
   rw [← HR.out,b5];rfl
  go_wp2_with fail
  go_ret
  exact ⟨by rw [HF.out];rfl,Below.refl _ _⟩
 ·have z5:((n:Int) != (n2:Int))=false:=by simpa using b5
  clear b5
  have HR2:Hid (propsSame ks ks'=res):=by
   show _=_
   rw [← HR.out,z5];rfl
  have HEQ:Hid (n=n2):=by
   have a:=z5
   simp at a
   show _=_
   omega
  go_wp2_with fail
  clear HR z5
  obtain rfl:=HEQ.out
  clear HEQ
  go_loopw [17] (fun i wr=>∃ j:Nat,j≤n∧i=.int .i64 j∧Below w.heap.size w wr∧propsSame (ks.drop j) (ks'.drop j)=res) (fun i _=>n - (intOf i).toNat)
  case atStart=>exact ⟨0,Nat.zero_le _,rfl,Below.refl _ _,HR2.out⟩
  case round =>
   obtain ⟨j,hj,rfl,hbr,hrs⟩:=hrel
   have HBR:=hidE hbr
   have HRS:=hidE hrs
   have hwz:w.heap.size≤wr.heap.size:=hbr.size
   clear hbr hrs
   by_cases hlt:j<n
   ·have hlt':(j:Int)<n:=by omega
    obtain ⟨xk,hx⟩:∃ q,ks[j]?=some q:=⟨_,List.getElem?_eq_getElem (by have:=HN1.out;omega)⟩
    obtain ⟨yk,hy⟩:∃ q,ks'[j]?=some q:=⟨_,List.getElem?_eq_getElem (by have:=HN2.out;omega)⟩
    obtain ⟨bl,off,rfl,hbl,hc⟩:=HKK.out.1.resolve_left (by intro e;rw [e] at hx;simp at hx)
    obtain ⟨bl2,off2,rfl,hbl2,hc2⟩:=HKK.out.2.resolve_left (by intro e;rw [e] at hy;simp at hy)
    obtain ⟨v0,v1,v2,v3,v4,v5,⟨c0,c1,c2,c3,c4,c5,c6⟩,hv⟩:=((hc j _ hx).below (HBR.out.mono hB) hbl).reg
    obtain ⟨u0,u1,u2,u3,u4,u5,⟨d0,d1,d2,d3,d4,d5,d6⟩,hu⟩:=((hc2 j _ hy).below (HBR.out.mono hB) hbl2).reg
    have hbw:bl<wr.heap.size:=by omega
    have hbw2:bl2<wr.heap.size:=by omega
    have HK1:=hidE (fun W (hb:Below wr.heap.size wr W)=>sameProp_any xk yk B _ _ W (by have:=hb.size;omega) (HTB.out.below (below_on HBR.out hb)) (hv.below (hb.mono (by omega))) (hu.below (hb.mono (by omega))) (HMM.out.1 _ (List.mem_of_getElem? hx)) (HMM.out.2 _ (List.mem_of_getElem? hy)))
    obtain ⟨ba,hba⟩:∃ b,((xk.1.toList==yk.1.toList)&&sameB xk.2 yk.2)=b:=⟨_,rfl⟩
    rw [hba] at HK1
    have HE:Hid (res=(ba&&propsSame (ks.drop (j+1)) (ks'.drop (j+1)))):=by
     show _=_
     rw [← HRS.out,propsSame_at hx hy,hba]
    have hvl:Lies B wr (.agg #[v0,v1,v2,v3,v4,v5]) xk.2:=by
     obtain ⟨_,_,_,_,_,_,e,h⟩:=hv
     injection e with e
     have e:=congrArg Array.toList e
     simp only [List.cons.injEq,and_true] at e
     obtain ⟨_,rfl,rfl,rfl,rfl,rfl,rfl⟩:=e
     exact h
    have hul:Lies B wr (.agg #[u0,u1,u2,u3,u4,u5]) yk.2:=by
     obtain ⟨_,_,_,_,_,_,e,h⟩:=hu
     injection e with e
     have e:=congrArg Array.toList e
     simp only [List.cons.injEq,and_true] at e
     obtain ⟨_,rfl,rfl,rfl,rfl,rfl,rfl⟩:=e
     exact h
    obtain ⟨i0,b1,i2,s3,k4,k4n,k4c,l5,l5n,l5c,rfl,rfl,rfl,rfl,rfl,rfl⟩:=lies_kinds hvl
    obtain ⟨j0,dd1,j2,t3,m4,m4n,m4c,n5,n5n,n5c,rfl,rfl,rfl,rfl,rfl,rfl⟩:=lies_kinds hul
    clear hvl hul
    obtain ⟨xk,T⟩:=xk
    obtain ⟨yk,T'⟩:=yk
    simp only at c0 d0 HK1
    clear hx hy hc hc2 hv hu hba
    go_upto_region 6 with fail
    generalize hW1:World.alloc _ _=W1
    have hr1:=rec_new wr #[.string xk,.int .i64 i0,.bool b1,.int .i64 i2,.string s3,.slice k4 k4n k4c,.slice l5 l5n l5c] 79
    rw [hW1] at hr1
    have HR1:=hidE hr1
    have HB1:Hid (Below wr.heap.size wr W1):=by rw [← hW1];exact (Below.refl _ _).alloc (Nat.le_refl _) _
    replace d0:=(HB1.out.cell (p:=⟨bl2,off2+j*7,none⟩) hbw2).trans d0
    replace d1:=(HB1.out.cell (p:=⟨bl2,off2+j*7+1,none⟩) hbw2).trans d1
    replace d2:=(HB1.out.cell (p:=⟨bl2,off2+j*7+2,none⟩) hbw2).trans d2
    replace d3:=(HB1.out.cell (p:=⟨bl2,off2+j*7+3,none⟩) hbw2).trans d3
    replace d4:=(HB1.out.cell (p:=⟨bl2,off2+j*7+4,none⟩) hbw2).trans d4
    replace d5:=(HB1.out.cell (p:=⟨bl2,off2+j*7+5,none⟩) hbw2).trans d5
    replace d6:=(HB1.out.cell (p:=⟨bl2,off2+j*7+6,none⟩) hbw2).trans d6
    clear hW1 hr1 c0 c1 c2 c3 c4 c5 c6
    go_upto_region 7 with fail
    generalize hW2:World.alloc _ _=W2
    have hr2:=rec_new W1 #[.string yk,.int .i64 j0,.bool dd1,.int .i64 j2,.string t3,.slice m4 m4n m4c,.slice n5 n5n n5c] 79
    rw [hW2] at hr2
    have HB2:Hid (Below W1.heap.size W1 W2):=by rw [← hW2];exact (Below.refl _ _).alloc (Nat.le_refl _) _
    have hr1:=HR1.out.below HB2.out HR1.out.lt
    have HC2:=hidE (HK1.out W2 (below_on HB1.out HB2.out))
    have a0:=hr1.cell 0 rfl
    have e0:=hr2.cell 0 rfl
    have a1:=hr1.cell 1 rfl
    have e1:=hr2.cell 1 rfl
    have a2:=hr1.cell 2 rfl
    have e2:=hr2.cell 2 rfl
    have a3:=hr1.cell 3 rfl
    have e3:=hr2.cell 3 rfl
    have a4:=hr1.cell 4 rfl
    have e4:=hr2.cell 4 rfl
    have a5:=hr1.cell 5 rfl
    have e5:=hr2.cell 5 rfl
    have a6:=hr1.cell 6 rfl
    have e6:=hr2.cell 6 rfl
    clear hW2 hr1 hr2 HK1 d0 d1 d2 d3 d4 d5 d6
    go_wp2_with fail
    refine HC2.out.mono ?_
    rintro e w3 ⟨rfl,hb3⟩
    have HB3:=hidE (below_on HBR.out (below_on (below_on HB1.out HB2.out) hb3))
    clear hb3 HC2 a0 e0 a1 e1 a2 e2 a3 e3 a4 e4 a5 e5 a6 e6
    cases ba with
    | false =>
     have HF:Hid (res=false):=by
      show _=_
      rw [HE.out];rfl
     go_wp2_with fail
     go_ret
     exact ⟨by rw [HF.out];rfl,HB3.out⟩
    | true =>
     have HN9:Hid (propsSame (ks.drop (j+1)) (ks'.drop (j+1))=res):=by
      show _=_
      rw [HE.out];rfl
     go_wp2_with fail
     go_roundw
     case rel=>exact ⟨j+1,by omega,by go_num,HB3.out,HN9.out⟩
     case measure=>simp [intOf];omega
   ·have HF:Hid (res=true):=by
     show _=_
     rw [← HRS.out,List.drop_of_length_le (by have:=HN1.out;omega)];rfl
    have hlt':¬ (j:Int)<n:=by omega
    go_wp2_with fail
    go_ret
    exact ⟨by rw [HF.out];rfl,HBR.out⟩
theorem sameNodeP_any (p q:NodeP) (B:Nat) (v v':Value) (w:World) (hB:B≤w.heap.size) (hT:Tabs w) (hv:NodeLies B w v p) (hv':NodeLies B w v' q) (hm:∀ x ∈ p.props,Modest x.2) (hm':∀ x ∈ q.props,Modest x.2) :
  Calls Tryz.prog 48 #[v,v'] w fun e w'=>e=.returned (.bool (sameNodeP p q))∧Below w.heap.size w w':=by
 obtain ⟨la,lc,pa,pc,rfl,hs,hk,hp⟩:=hv
 obtain ⟨la2,lc2,pa2,pc2,rfl,hs2,hk2,hp2⟩:=hv'
 have HC1:=hidE (fun W (hb:Below w.heap.size w W)=>equalS_any p.labels q.labels B la la2 lc lc2 W (Nat.le_trans hB hb.size) (hk.below (hb.mono hB)) (hk2.below (hb.mono hB)) hs.1 hs.2 hs2.1 hs2.2)
 have HC2:=hidE (fun W (hb:Below w.heap.size w W)=>eqProps_any p.props q.props B pa pa2 pc pc2 W (Nat.le_trans hB hb.size) (hT.below hb) (PropsLie.below (hb.mono hB) hp) (PropsLie.below (hb.mono hB) hp2) hm hm')
 obtain ⟨res,hres⟩:∃ r,sameNodeP p q=r:=⟨_,rfl⟩
 rw [hres]
 unfold sameNodeP at hres
 obtain ⟨b2,hb2⟩:∃ b,sameTextsB p.labels q.labels=b:=⟨_,rfl⟩
 obtain ⟨b3,hb3⟩:∃ b,samePropsP p.props q.props=b:=⟨_,rfl⟩
 rw [hb2,hb3] at hres
 rw [hb2] at HC1
 rw [hb3] at HC2
 obtain ⟨xi,xl,xp⟩:=p
 obtain ⟨yi,yl,yp⟩:=q
 simp only at HC1 HC2 hres ⊢
 have HR:=hidE hres
 clear hs hk hp hs2 hk2 hp2 hm hm' hT hb2 hb3 hres
 go_enter Tryz.func48,Tryz.ntmps48
 go_upto_region 1 with fail
 generalize hW1:World.alloc _ _=W1
 have hr1:=(rec_new w #[.int .i64 xi,.slice la xl.length lc,.slice pa xp.length pc] 47).alloc (.cells #[.int .i64 yi,.slice la2 yl.length lc2,.slice pa2 yp.length pc2] 47)
 have hr2:=rec_new (w.alloc (.cells #[.int .i64 xi,.slice la xl.length lc,.slice pa xp.length pc] 47)) #[.int .i64 yi,.slice la2 yl.length lc2,.slice pa2 yp.length pc2] 47
 rw [hW1] at hr1 hr2
 rw [World.size_alloc] at hr2
 have HR1:=hidE hr1
 have HR2:=hidE hr2
 have HB1:Hid (Below w.heap.size w W1):=by rw [← hW1];exact ((Below.refl _ _).alloc (Nat.le_refl _) _).alloc (by simp) _
 clear hW1
 have a0:=hr1.cell 0 rfl
 have a1:=hr1.cell 1 rfl
 have a2:=hr1.cell 2 rfl
 have c0:=hr2.cell 0 rfl
 have c1:=hr2.cell 1 rfl
 have c2:=hr2.cell 2 rfl
 clear hr1 hr2
 obtain ⟨b1,hb1⟩:∃ b,(xi==yi)=b:=⟨_,rfl⟩
 rw [hb1] at HR
 cases b1 with
 | false =>
  have HF:Hid (res=false):=by rw [← HR.out];rfl
  go_wp2_with fail
  go_ret
  exact ⟨by rw [HF.out];rfl,HB1.out⟩
 | true =>
  go_wp2_with fail
  refine (HC1.out W1 HB1.out).mono ?_
  rintro e w2 ⟨rfl,hb2⟩
  have HB2:=hidE (below_on HB1.out hb2)
  have HS1:=hidE (HR1.out.below hb2 HR1.out.lt)
  have HS2:=hidE (HR2.out.below hb2 HR2.out.lt)
  clear hb2 a0 a1 a2 c0 c1 c2
  have a2:=HS1.out.cell 2 rfl
  have c2:=HS2.out.cell 2 rfl
  cases b2 with
  | false =>
   have HF:Hid (res=false):=by rw [← HR.out];rfl
   go_wp2_with fail
   go_ret
   exact ⟨by rw [HF.out];rfl,HB2.out⟩
  | true =>
   have HF:Hid (res=b3):=by rw [← HR.out];rfl
   go_wp2_with fail
   refine (HC2.out w2 HB2.out).mono ?_
   rintro e w3 ⟨rfl,hb3⟩
   have HB3:=hidE (below_on HB2.out hb3)
   clear hb3
   go_wp2_with fail
   go_ret
   exact ⟨by rw [HF.out];rfl,HB3.out⟩
theorem sameRelP_any (p q:RelP) (B:Nat) (v v':Value) (w:World) (hB:B≤w.heap.size) (hT:Tabs w) (hv:RelLies B w v p) (hv':RelLies B w v' q) (hm:∀ x ∈ p.props,Modest x.2) (hm':∀ x ∈ q.props,Modest x.2) :
  Calls Tryz.prog 50 #[v,v'] w fun e w'=>e=.returned (.bool (sameRelP p q))∧Below w.heap.size w w':=by
 obtain ⟨pa,pc,rfl,hp⟩:=hv
 obtain ⟨pa2,pc2,rfl,hp2⟩:=hv'
 have HC2:=hidE (fun W (hb:Below w.heap.size w W)=>eqProps_any p.props q.props B pa pa2 pc pc2 W (Nat.le_trans hB hb.size) (hT.below hb) (PropsLie.below (hb.mono hB) hp) (PropsLie.below (hb.mono hB) hp2) hm hm')
 obtain ⟨res,hres⟩:∃ r,sameRelP p q=r:=⟨_,rfl⟩
 rw [hres]
 unfold sameRelP at hres
 obtain ⟨b3,hb3⟩:∃ b,samePropsP p.props q.props=b:=⟨_,rfl⟩
 rw [hb3] at hres
 rw [hb3] at HC2
 obtain ⟨xi,xf,xt,xs,xp⟩:=p
 obtain ⟨yi,yf,yt,ys,yp⟩:=q
 simp only at HC2 hres ⊢
 have HR:=hidE hres
 clear hp hp2 hm hm' hT hb3 hres
 go_enter Tryz.func50,Tryz.ntmps50
 go_upto_region 1 with fail
 generalize hW1:World.alloc _ _=W1
 have hr1:=(rec_new w #[.int .i64 xi,.int .i64 xf,.int .i64 xt,.string xs,.slice pa xp.length pc] 49).alloc (.cells #[.int .i64 yi,.int .i64 yf,.int .i64 yt,.string ys,.slice pa2 yp.length pc2] 49)
 have hr2:=rec_new (w.alloc (.cells #[.int .i64 xi,.int .i64 xf,.int .i64 xt,.string xs,.slice pa xp.length pc] 49)) #[.int .i64 yi,.int .i64 yf,.int .i64 yt,.string ys,.slice pa2 yp.length pc2] 49
 rw [hW1] at hr1 hr2
 rw [World.size_alloc] at hr2
 have HB1:Hid (Below w.heap.size w W1):=by rw [← hW1];exact ((Below.refl _ _).alloc (Nat.le_refl _) _).alloc (by simp) _
 clear hW1
 have a0:=hr1.cell 0 rfl
 have c0:=hr2.cell 0 rfl
 have a1:=hr1.cell 1 rfl
 have c1:=hr2.cell 1 rfl
 have a2:=hr1.cell 2 rfl
 have c2:=hr2.cell 2 rfl
 have a3:=hr1.cell 3 rfl
 have c3:=hr2.cell 3 rfl
 have a4:=hr1.cell 4 rfl
 have c4:=hr2.cell 4 rfl
 clear hr1 hr2
 obtain ⟨b1,hb1⟩:∃ b,(xi==yi)=b:=⟨_,rfl⟩
 obtain ⟨b2,hb2⟩:∃ b,(xf==yf)=b:=⟨_,rfl⟩
 obtain ⟨b4,hb4⟩:∃ b,(xt==yt)=b:=⟨_,rfl⟩
 obtain ⟨b5,hb5⟩:∃ b,(xs.toList==ys.toList)=b:=⟨_,rfl⟩
 rw [hb1,hb2,hb4,hb5] at HR
 cases b1 with
 | false =>
  have HF:Hid (res=false):=by rw [← HR.out];rfl
  go_wp2_with fail
  go_ret
  exact ⟨by rw [HF.out];rfl,HB1.out⟩
 | true =>
  cases b2 with
  | false =>
   have HF:Hid (res=false):=by rw [← HR.out];rfl
   go_wp2_with fail
   go_ret
   exact ⟨by rw [HF.out];rfl,HB1.out⟩
  | true =>
   cases b4 with
   | false =>
    have HF:Hid (res=false):=by rw [← HR.out];rfl
    go_wp2_with fail
    go_ret
    exact ⟨by rw [HF.out];rfl,HB1.out⟩
   | true =>
    cases b5 with
    | false =>
     have HF:Hid (res=false):=by rw [← HR.out];rfl
     go_wp2_with fail
     go_ret
     exact ⟨by rw [HF.out];rfl,HB1.out⟩
    | true =>
     have HF:Hid (res=b3):=by rw [← HR.out];rfl
     go_wp2_with fail
     refine (HC2.out W1 HB1.out).mono ?_
     rintro e w3 ⟨rfl,hb3⟩
     have HB3:=hidE (below_on HB1.out hb3)
     clear hb3
     go_wp2_with fail
     go_ret
     exact ⟨by rw [HF.out];rfl,HB3.out⟩
theorem eqNodes_any (ks ks':List NodeP) (B:Nat) (ka ka2:Option Addr) (kc kc2:Nat) (w:World) (hB:B≤w.heap.size) (hT:Tabs w) (hk:NodesLie B w (.slice ka ks.length kc) ks) (hk':NodesLie B w (.slice ka2 ks'.length kc2) ks') (hm:∀ n ∈ ks,∀ x ∈ n.props,Modest x.2) (hm':∀ n ∈ ks',∀ x ∈ n.props,Modest x.2) :
  Calls Tryz.prog 47 #[.slice ka ks.length kc,.slice ka2 ks'.length kc2,.func (.func 48) #[] #[]] w fun e w'=>e=.returned (.bool (sameNodesP ks ks'))∧Below w.heap.size w w':=by
 obtain ⟨a',c',e1,h1,h2,hp3⟩:=hk
 obtain ⟨rfl,rfl⟩:ka=a'∧kc=c':=by injection e1 with e1 _ e2;exact ⟨e1,e2⟩
 obtain ⟨a',c',e2,g1,g2,hq3⟩:=hk'
 obtain ⟨rfl,rfl⟩:ka2=a'∧kc2=c':=by injection e2 with e1 _ e2;exact ⟨e1,e2⟩
 have HKK:=hidE (And.intro hp3 hq3)
 have HTB:=hidE hT
 have HMM:=hidE (And.intro hm hm')
 have hk:=trivial
 have hk':=trivial
 clear hp3 hq3 e1 e2 hT hm hm'
 obtain ⟨res,hres⟩:∃ r,sameNodesP ks ks'=r:=⟨_,rfl⟩
 rw [hres]
 unfold sameNodesP at hres
 have HR:=hidE hres
 obtain ⟨n,hn⟩:∃ n,ks.length=n:=⟨_,rfl⟩
 obtain ⟨n2,hn2⟩:∃ n,ks'.length=n:=⟨_,rfl⟩
 have HN1:=hidE hn
 have HN2:=hidE hn2
 rw [hn] at h1
 rw [hn2] at g1
 rw [hn,hn2] at HR
 rw [hn,hn2]
 clear hk hk' hres hn hn2
 go_enter Tryz.func47,Tryz.ntmps47
 by_cases b5:((n:Int) != (n2:Int))=true
 ·have HF:Hid (res=false):=by
   show _=_
   rw [← HR.out,b5];rfl
  go_wp2_with fail
  go_ret
  exact ⟨by rw [HF.out];rfl,Below.refl _ _⟩
 ·have z5:((n:Int) != (n2:Int))=false:=by simpa using b5
  clear b5
  have HR2:Hid (nodesSame ks ks'=res):=by
   show _=_
   rw [← HR.out,z5];rfl
  have HEQ:Hid (n=n2):=by
   have a:=z5
   simp at a
   show _=_
   omega
  go_wp2_with fail
  clear HR z5
  obtain rfl:=HEQ.out
  clear HEQ
  go_loopw [17] (fun i wr=>∃ j:Nat,j≤n∧i=.int .i64 j∧Below w.heap.size w wr∧nodesSame (ks.drop j) (ks'.drop j)=res) (fun i _=>n - (intOf i).toNat)
  case atStart=>exact ⟨0,Nat.zero_le _,rfl,Below.refl _ _,HR2.out⟩
  case round =>
   obtain ⟨j,hj,rfl,hbr,hrs⟩:=hrel
   have HBR:=hidE hbr
   have HRS:=hidE hrs
   have hwz:w.heap.size≤wr.heap.size:=hbr.size
   clear hbr hrs
   by_cases hlt:j<n
   ·have hlt':(j:Int)<n:=by omega
    obtain ⟨xk,hx⟩:∃ q,ks[j]?=some q:=⟨_,List.getElem?_eq_getElem (by have:=HN1.out;omega)⟩
    obtain ⟨yk,hy⟩:∃ q,ks'[j]?=some q:=⟨_,List.getElem?_eq_getElem (by have:=HN2.out;omega)⟩
    obtain ⟨bl,off,rfl,hbl,hc⟩:=HKK.out.1.resolve_left (by intro e;rw [e] at hx;simp at hx)
    obtain ⟨bl2,off2,rfl,hbl2,hc2⟩:=HKK.out.2.resolve_left (by intro e;rw [e] at hy;simp at hy)
    obtain ⟨v0,v1,v2,⟨c0,c1,c2⟩,hv⟩:=((hc j _ hx).below (HBR.out.mono hB) hbl).lies
    obtain ⟨u0,u1,u2,⟨d0,d1,d2⟩,hu⟩:=((hc2 j _ hy).below (HBR.out.mono hB) hbl2).lies
    have hbw:bl<wr.heap.size:=by omega
    have hbw2:bl2<wr.heap.size:=by omega
    have HK1:=hidE (fun W (hb:Below wr.heap.size wr W)=>sameNodeP_any xk yk B _ _ W (by have:=hb.size;omega) (HTB.out.below (below_on HBR.out hb)) (hv.below (hb.mono (by omega))) (hu.below (hb.mono (by omega))) (HMM.out.1 _ (List.mem_of_getElem? hx)) (HMM.out.2 _ (List.mem_of_getElem? hy)))
    obtain ⟨ba,hba⟩:∃ b,sameNodeP xk yk=b:=⟨_,rfl⟩
    rw [hba] at HK1
    have HE:Hid (res=(ba&&nodesSame (ks.drop (j+1)) (ks'.drop (j+1)))):=by
     show _=_
     rw [← HRS.out,nodesSame_at hx hy,hba]
    obtain ⟨la,lc,pa,pc,e1,_,_,_⟩:=hv
    obtain ⟨la2,lc2,pa2,pc2,e2,_,_,_⟩:=hu
    injection e1 with e1
    injection e2 with e2
    have e1:=congrArg Array.toList e1
    have e2:=congrArg Array.toList e2
    simp only [List.cons.injEq,and_true] at e1 e2
    obtain ⟨rfl,rfl,rfl⟩:=e1
    obtain ⟨rfl,rfl,rfl⟩:=e2
    have hv:=trivial
    have hu:=trivial
    obtain ⟨xi,xl,xp⟩:=xk
    obtain ⟨yi,yl,yp⟩:=yk
    simp only at c0 d0 c1 c2 d1 d2 HK1
    clear hx hy hc hc2 hv hu hba
    go_upto_region 6 with fail
    generalize hW1:World.alloc _ _=W1
    have hr1:=rec_new wr #[.int .i64 xi,.slice la xl.length lc,.slice pa xp.length pc] 47
    rw [hW1] at hr1
    have HR1:=hidE hr1
    have HB1:Hid (Below wr.heap.size wr W1):=by rw [← hW1];exact (Below.refl _ _).alloc (Nat.le_refl _) _
    replace d0:=(HB1.out.cell (p:=⟨bl2,off2+j*3,none⟩) hbw2).trans d0
    replace d1:=(HB1.out.cell (p:=⟨bl2,off2+j*3+1,none⟩) hbw2).trans d1
    replace d2:=(HB1.out.cell (p:=⟨bl2,off2+j*3+2,none⟩) hbw2).trans d2
    clear hW1 hr1 c0 c1 c2
    go_upto_region 7 with fail
    generalize hW2:World.alloc _ _=W2
    have hr2:=rec_new W1 #[.int .i64 yi,.slice la2 yl.length lc2,.slice pa2 yp.length pc2] 47
    rw [hW2] at hr2
    have HB2:Hid (Below W1.heap.size W1 W2):=by rw [← hW2];exact (Below.refl _ _).alloc (Nat.le_refl _) _
    have hr1:=HR1.out.below HB2.out HR1.out.lt
    have HC2:=hidE (HK1.out W2 (below_on HB1.out HB2.out))
    have a0:=hr1.cell 0 rfl
    have e0:=hr2.cell 0 rfl
    have a1:=hr1.cell 1 rfl
    have e1:=hr2.cell 1 rfl
    have a2:=hr1.cell 2 rfl
    have e2:=hr2.cell 2 rfl
    clear hW2 hr1 hr2 HK1 d0 d1 d2
    go_wp2_with fail
    refine HC2.out.mono ?_
    rintro e w3 ⟨rfl,hb3⟩
    have HB3:=hidE (below_on HBR.out (below_on (below_on HB1.out HB2.out) hb3))
    clear hb3 HC2 a0 e0 a1 e1 a2 e2
    cases ba with
    | false =>
     have HF:Hid (res=false):=by
      show _=_
      rw [HE.out];rfl
     go_wp2_with fail
     go_ret
     exact ⟨by rw [HF.out];rfl,HB3.out⟩
    | true =>
     have HN9:Hid (nodesSame (ks.drop (j+1)) (ks'.drop (j+1))=res):=by
      show _=_
      rw [HE.out];rfl
     go_wp2_with fail
     go_roundw
     case rel=>exact ⟨j+1,by omega,by go_num,HB3.out,HN9.out⟩
     case measure=>simp [intOf];omega
   ·have HF:Hid (res=true):=by
     show _=_
     rw [← HRS.out,List.drop_of_length_le (by have:=HN1.out;omega)];rfl
    have hlt':¬ (j:Int)<n:=by omega
    go_wp2_with fail
    go_ret
    exact ⟨by rw [HF.out];rfl,HBR.out⟩
theorem eqRels_any (ks ks':List RelP) (B:Nat) (ka ka2:Option Addr) (kc kc2:Nat) (w:World) (hB:B≤w.heap.size) (hT:Tabs w) (hk:RelsLie B w (.slice ka ks.length kc) ks) (hk':RelsLie B w (.slice ka2 ks'.length kc2) ks') (hm:∀ n ∈ ks,∀ x ∈ n.props,Modest x.2) (hm':∀ n ∈ ks',∀ x ∈ n.props,Modest x.2) :
  Calls Tryz.prog 49 #[.slice ka ks.length kc,.slice ka2 ks'.length kc2,.func (.func 50) #[] #[]] w fun e w'=>e=.returned (.bool (sameRelsP ks ks'))∧Below w.heap.size w w':=by
 obtain ⟨a',c',e1,h1,h2,hp3⟩:=hk
 obtain ⟨rfl,rfl⟩:ka=a'∧kc=c':=by injection e1 with e1 _ e2;exact ⟨e1,e2⟩
 obtain ⟨a',c',e2,g1,g2,hq3⟩:=hk'
 obtain ⟨rfl,rfl⟩:ka2=a'∧kc2=c':=by injection e2 with e1 _ e2;exact ⟨e1,e2⟩
 have HKK:=hidE (And.intro hp3 hq3)
 have HTB:=hidE hT
 have HMM:=hidE (And.intro hm hm')
 have hk:=trivial
 have hk':=trivial
 clear hp3 hq3 e1 e2 hT hm hm'
 obtain ⟨res,hres⟩:∃ r,sameRelsP ks ks'=r:=⟨_,rfl⟩
 rw [hres]
 unfold sameRelsP at hres
 have HR:=hidE hres
 obtain ⟨n,hn⟩:∃ n,ks.length=n:=⟨_,rfl⟩
 obtain ⟨n2,hn2⟩:∃ n,ks'.length=n:=⟨_,rfl⟩
 have HN1:=hidE hn
 have HN2:=hidE hn2
 rw [hn] at h1
 rw [hn2] at g1
 rw [hn,hn2] at HR
 rw [hn,hn2]
 clear hk hk' hres hn hn2
 go_enter Tryz.func49,Tryz.ntmps49
 by_cases b5:((n:Int) != (n2:Int))=true
 ·have HF:Hid (res=false):=by
   show _=_
   rw [← HR.out,b5];rfl
  go_wp2_with fail
  go_ret
  exact ⟨by rw [HF.out];rfl,Below.refl _ _⟩
 ·have z5:((n:Int) != (n2:Int))=false:=by simpa using b5
  clear b5
  have HR2:Hid (relsSame ks ks'=res):=by
   show _=_
   rw [← HR.out,z5];rfl
  have HEQ:Hid (n=n2):=by
   have a:=z5
   simp at a
   show _=_
   omega
  go_wp2_with fail
  clear HR z5
  obtain rfl:=HEQ.out
  clear HEQ
  go_loopw [17] (fun i wr=>∃ j:Nat,j≤n∧i=.int .i64 j∧Below w.heap.size w wr∧relsSame (ks.drop j) (ks'.drop j)=res) (fun i _=>n - (intOf i).toNat)
  case atStart=>exact ⟨0,Nat.zero_le _,rfl,Below.refl _ _,HR2.out⟩
  case round =>
   obtain ⟨j,hj,rfl,hbr,hrs⟩:=hrel
   have HBR:=hidE hbr
   have HRS:=hidE hrs
   have hwz:w.heap.size≤wr.heap.size:=hbr.size
   clear hbr hrs
   by_cases hlt:j<n
   ·have hlt':(j:Int)<n:=by omega
    obtain ⟨xk,hx⟩:∃ q,ks[j]?=some q:=⟨_,List.getElem?_eq_getElem (by have:=HN1.out;omega)⟩
    obtain ⟨yk,hy⟩:∃ q,ks'[j]?=some q:=⟨_,List.getElem?_eq_getElem (by have:=HN2.out;omega)⟩
    obtain ⟨bl,off,rfl,hbl,hc⟩:=HKK.out.1.resolve_left (by intro e;rw [e] at hx;simp at hx)
    obtain ⟨bl2,off2,rfl,hbl2,hc2⟩:=HKK.out.2.resolve_left (by intro e;rw [e] at hy;simp at hy)
    obtain ⟨v0,v1,v2,v3,v4,⟨c0,c1,c2,c3,c4⟩,hv⟩:=((hc j _ hx).below (HBR.out.mono hB) hbl).lies
    obtain ⟨u0,u1,u2,u3,u4,⟨d0,d1,d2,d3,d4⟩,hu⟩:=((hc2 j _ hy).below (HBR.out.mono hB) hbl2).lies
    have hbw:bl<wr.heap.size:=by omega
    have hbw2:bl2<wr.heap.size:=by omega
    have HK1:=hidE (fun W (hb:Below wr.heap.size wr W)=>sameRelP_any xk yk B _ _ W (by have:=hb.size;omega) (HTB.out.below (below_on HBR.out hb)) (hv.below (hb.mono (by omega))) (hu.below (hb.mono (by omega))) (HMM.out.1 _ (List.mem_of_getElem? hx)) (HMM.out.2 _ (List.mem_of_getElem? hy)))
    obtain ⟨ba,hba⟩:∃ b,sameRelP xk yk=b:=⟨_,rfl⟩
    rw [hba] at HK1
    have HE:Hid (res=(ba&&relsSame (ks.drop (j+1)) (ks'.drop (j+1)))):=by
     show _=_
     rw [← HRS.out,relsSame_at hx hy,hba]
    obtain ⟨pa,pc,e1,_⟩:=hv
    obtain ⟨pa2,pc2,e2,_⟩:=hu
    injection e1 with e1
    injection e2 with e2
    have e1:=congrArg Array.toList e1
    have e2:=congrArg Array.toList e2
    simp only [List.cons.injEq,and_true] at e1 e2
    obtain ⟨rfl,rfl,rfl,rfl,rfl⟩:=e1
    obtain ⟨rfl,rfl,rfl,rfl,rfl⟩:=e2
    have hv:=trivial
    have hu:=trivial
    obtain ⟨xi,xf,xt,xs,xp⟩:=xk
    obtain ⟨yi,yf,yt,ys,yp⟩:=yk
    simp only at c0 d0 c3 d3 c1 c2 c3 c4 d1 d2 d3 d4 HK1
    clear hx hy hc hc2 hv hu hba
    go_upto_region 6 with fail
    generalize hW1:World.alloc _ _=W1
    have hr1:=rec_new wr #[.int .i64 xi,.int .i64 xf,.int .i64 xt,.string xs,.slice pa xp.length pc] 49
    rw [hW1] at hr1
    have HR1:=hidE hr1
    have HB1:Hid (Below wr.heap.size wr W1):=by rw [← hW1];exact (Below.refl _ _).alloc (Nat.le_refl _) _
    replace d0:=(HB1.out.cell (p:=⟨bl2,off2+j*5,none⟩) hbw2).trans d0
    replace d1:=(HB1.out.cell (p:=⟨bl2,off2+j*5+1,none⟩) hbw2).trans d1
    replace d2:=(HB1.out.cell (p:=⟨bl2,off2+j*5+2,none⟩) hbw2).trans d2
    replace d3:=(HB1.out.cell (p:=⟨bl2,off2+j*5+3,none⟩) hbw2).trans d3
    replace d4:=(HB1.out.cell (p:=⟨bl2,off2+j*5+4,none⟩) hbw2).trans d4
    clear hW1 hr1 c0 c1 c2 c3 c4
    go_upto_region 7 with fail
    generalize hW2:World.alloc _ _=W2
    have hr2:=rec_new W1 #[.int .i64 yi,.int .i64 yf,.int .i64 yt,.string ys,.slice pa2 yp.length pc2] 49
    rw [hW2] at hr2
    have HB2:Hid (Below W1.heap.size W1 W2):=by rw [← hW2];exact (Below.refl _ _).alloc (Nat.le_refl _) _
    have hr1:=HR1.out.below HB2.out HR1.out.lt
    have HC2:=hidE (HK1.out W2 (below_on HB1.out HB2.out))
    have a0:=hr1.cell 0 rfl
    have e0:=hr2.cell 0 rfl
    have a1:=hr1.cell 1 rfl
    have e1:=hr2.cell 1 rfl
    have a2:=hr1.cell 2 rfl
    have e2:=hr2.cell 2 rfl
    have a3:=hr1.cell 3 rfl
    have e3:=hr2.cell 3 rfl
    have a4:=hr1.cell 4 rfl
    have e4:=hr2.cell 4 rfl
    clear hW2 hr1 hr2 HK1 d0 d1 d2 d3 d4
    go_wp2_with fail
    refine HC2.out.mono ?_
    rintro e w3 ⟨rfl,hb3⟩
    have HB3:=hidE (below_on HBR.out (below_on (below_on HB1.out HB2.out) hb3))
    clear hb3 HC2 a0 e0 a1 e1 a2 e2 a3 e3 a4 e4
    cases ba with
    | false =>
     have HF:Hid (res=false):=by
      show _=_
      rw [HE.out];rfl
     go_wp2_with fail
     go_ret
     exact ⟨by rw [HF.out];rfl,HB3.out⟩
    | true =>
     have HN9:Hid (relsSame (ks.drop (j+1)) (ks'.drop (j+1))=res):=by
      show _=_
      rw [HE.out];rfl
     go_wp2_with fail
     go_roundw
     case rel=>exact ⟨j+1,by omega,by go_num,HB3.out,HN9.out⟩
     case measure=>simp [intOf];omega
   ·have HF:Hid (res=true):=by
     show _=_
     rw [← HRS.out,List.drop_of_length_le (by have:=HN1.out;omega)];rfl
    have hlt':¬ (j:Int)<n:=by omega
    go_wp2_with fail
    go_ret
    exact ⟨by rw [HF.out];rfl,HBR.out⟩
def sameGP (a b:GraphP):Bool:=(a.nn==b.nn)&&((a.nr==b.nr)&&(sameNodesP a.nodes b.nodes&&sameRelsP a.rels b.rels))
theorem sameG_any (p q:GraphP) (B:Nat) (v v':Value) (w:World) (hB:B≤w.heap.size) (hT:Tabs w) (hv:GraphLies B w v p) (hv':GraphLies B w v' q) (hm1:∀ n ∈ p.nodes,∀ x ∈ n.props,Modest x.2) (hm2:∀ n ∈ p.rels,∀ x ∈ n.props,Modest x.2) (hm3:∀ n ∈ q.nodes,∀ x ∈ n.props,Modest x.2) (hm4:∀ n ∈ q.rels,∀ x ∈ n.props,Modest x.2) :
  Calls Tryz.prog 16 #[v,v'] w fun e w'=>e=.returned (.bool (sameGP p q))∧Below w.heap.size w w':=by
 obtain ⟨na,nc,ra,rc,rfl,hn,hr⟩:=hv
 obtain ⟨na2,nc2,ra2,rc2,rfl,hn2,hr2⟩:=hv'
 have HC1:=hidE (fun W (hb:Below w.heap.size w W)=>eqNodes_any p.nodes q.nodes B na na2 nc nc2 W (Nat.le_trans hB hb.size) (hT.below hb) (hn.below (hb.mono hB)) (hn2.below (hb.mono hB)) hm1 hm3)
 have HC2:=hidE (fun W (hb:Below w.heap.size w W)=>eqRels_any p.rels q.rels B ra ra2 rc rc2 W (Nat.le_trans hB hb.size) (hT.below hb) (hr.below (hb.mono hB)) (hr2.below (hb.mono hB)) hm2 hm4)
 obtain ⟨res,hres⟩:∃ r,sameGP p q=r:=⟨_,rfl⟩
 rw [hres]
 unfold sameGP at hres
 obtain ⟨b3,hb3⟩:∃ b,sameNodesP p.nodes q.nodes=b:=⟨_,rfl⟩
 obtain ⟨b4,hb4⟩:∃ b,sameRelsP p.rels q.rels=b:=⟨_,rfl⟩
 rw [hb3,hb4] at hres
 rw [hb3] at HC1
 rw [hb4] at HC2
 obtain ⟨ns,rs,nn,nr⟩:=p
 obtain ⟨ns',rs',nn',nr'⟩:=q
 simp only at HC1 HC2 hres ⊢
 have HR:=hidE hres
 clear hn hr hn2 hr2 hm1 hm2 hm3 hm4 hT hb3 hb4 hres
 go_enter Tryz.func16,Tryz.ntmps16
 go_upto_region 1 with fail
 generalize hW1:World.alloc _ _=W1
 have hr1:=(rec_new w #[.slice na ns.length nc,.slice ra rs.length rc,.int .i64 nn,.int .i64 nr] 25).alloc (.cells #[.slice na2 ns'.length nc2,.slice ra2 rs'.length rc2,.int .i64 nn',.int .i64 nr'] 25)
 have hr2:=rec_new (w.alloc (.cells #[.slice na ns.length nc,.slice ra rs.length rc,.int .i64 nn,.int .i64 nr] 25)) #[.slice na2 ns'.length nc2,.slice ra2 rs'.length rc2,.int .i64 nn',.int .i64 nr'] 25
 rw [hW1] at hr1 hr2
 rw [World.size_alloc] at hr2
 have HR1:=hidE hr1
 have HR2:=hidE hr2
 have HB1:Hid (Below w.heap.size w W1):=by rw [← hW1];exact ((Below.refl _ _).alloc (Nat.le_refl _) _).alloc (by simp) _
 clear hW1
 have a0:=hr1.cell 0 rfl
 have c0:=hr2.cell 0 rfl
 have a1:=hr1.cell 1 rfl
 have c1:=hr2.cell 1 rfl
 have a2:=hr1.cell 2 rfl
 have c2:=hr2.cell 2 rfl
 have a3:=hr1.cell 3 rfl
 have c3:=hr2.cell 3 rfl
 clear hr1 hr2
 obtain ⟨b1,hb1⟩:∃ b,(nn==nn')=b:=⟨_,rfl⟩
 obtain ⟨b2,hb2⟩:∃ b,(nr==nr')=b:=⟨_,rfl⟩
 rw [hb1,hb2] at HR
 cases b1 with
 | false =>
  have HF:Hid (res=false):=by rw [← HR.out];rfl
  go_wp2_with fail
  go_ret
  exact ⟨by rw [HF.out];rfl,HB1.out⟩
 | true =>
  cases b2 with
  | false =>
   have HF:Hid (res=false):=by rw [← HR.out];rfl
   go_wp2_with fail
   go_ret
   exact ⟨by rw [HF.out];rfl,HB1.out⟩
  | true =>
   go_wp2_with fail
   refine (HC1.out W1 HB1.out).mono ?_
   rintro e w2 ⟨rfl,hb2⟩
   have HB2:=hidE (below_on HB1.out hb2)
   have HS1:=hidE (HR1.out.below hb2 HR1.out.lt)
   have HS2:=hidE (HR2.out.below hb2 HR2.out.lt)
   clear hb2 a0 a1 a2 a3 c0 c1 c2 c3
   have a1:=HS1.out.cell 1 rfl
   have c1:=HS2.out.cell 1 rfl
   cases b3 with
   | false =>
    have HF:Hid (res=false):=by rw [← HR.out];rfl
    go_wp2_with fail
    go_ret
    exact ⟨by rw [HF.out];rfl,HB2.out⟩
   | true =>
    have HF:Hid (res=b4):=by rw [← HR.out];rfl
    go_wp2_with fail
    refine (HC2.out w2 HB2.out).mono ?_
    rintro e w3 ⟨rfl,hb3⟩
    have HB3:=hidE (below_on HB2.out hb3)
    clear hb3
    go_wp2_with fail
    go_ret
    exact ⟨by rw [HF.out];rfl,HB3.out⟩
end Go.Proofs.YteddjlbfbpecjaaGreatDoor
