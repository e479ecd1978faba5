/- The rules of a graph: the program's word. -/
import Derived.Test.YteddjlbfbpecjaaGreatDoorJoin24
import Derived.Test.YteddjlbfbpecjaaGreatDoorJoin17
import Derived.Test.YteddjlbfbpecjaaGreatDoorJoin5
namespace Go.Proofs.YteddjlbfbpecjaaGreatDoor
section
open Go.RowKit Go.Shelf
set_option maxHeartbeats 4000000
set_option maxRecDepth 100000
set_option linter.all false
attribute [local go_sem] Oper.semAt_some
def Zc1  : List (ByteArray × Zk)→Bool
 | []=>true
 | q::r=>(decide (checkN q.2=0)&&Zgn q.2)&&Zc1 r
theorem Zsg {ps:List (ByteArray × Zk)} {j:Nat} {q:ByteArray × Zk} (h:ps[j]?=some q):Zc1 (ps.drop j)=((decide (checkN q.2=0)&&Zgn q.2)&&Zc1 (ps.drop (j+1))):=by
 obtain ⟨hj,hx⟩:=List.getElem?_eq_some_iff.1 h
 rw [List.drop_eq_getElem_cons hj,hx,Zc1]
def Zhs (ps:List (ByteArray × Zk)):Bool:=Zc1 ps&&nrB ⟨#[]⟩ (ps.map Prod.fst)
theorem Zoq (v:Value) (ps:List (ByteArray × Zk)) (B:Nat) (w:World) (hB:B≤w.heap.size) (hE:Env w) (hp:Jh B w v ps) (hs:∀ q ∈ ps,q.1.size≤140737488355328∧Zct q.2) :
  Calls Tryz.prog 146 #[v] w fun e w'=>e=.returned (.bool (Zhs ps))∧Below w.heap.size w w':=by
 have HS:=Zb hs
 have HE:=Zb hE
 obtain ⟨pa,pc,rfl,h1,h2,hp3⟩:=hp
 have HP:=Zb hp3
 have HKY:Hid (∀ W,Below w.heap.size w W→Calls Tryz.prog 181 #[.slice pa ps.length pc,.func (.func 182) #[] #[]] W fun e w'=>e=.returned (.bool (nrB ⟨#[]⟩ (ps.map Prod.fst)))∧Below W.heap.size W w'):=fun W hb =>
  Zwa ps B pa pc W (by have:=hb.size;omega) (HE.out.below hb HE.out.room) (hp3.imp id fun ⟨bl,off,e,hl,hc⟩=>⟨bl,off,e,hl,fun i q hi=>(hc i q hi).below (hb.mono hB) hl⟩) h1 h2 (fun q hq=>(hs q hq).1)
 obtain ⟨res,hres⟩:∃ r,Zhs ps=r:=⟨_,rfl⟩
 rw [hres]
 unfold Zhs at hres
 obtain ⟨kb,hkb⟩:∃ r,nrB ⟨#[]⟩ (ps.map Prod.fst)=r:=⟨_,rfl⟩
 rw [hkb] at HKY hres
 have HR:=Zb hres
 obtain ⟨n,hn⟩:∃ n,ps.length=n:=⟨_,rfl⟩
 have HN:=Zb hn
 rw [hn] at h1 HKY ⊢
 clear hp3 hs hn hres hE hkb
 go_enter Tryz.func146,Tryz.ntmps146
 go_wp2_with fail
 go_loopw [7] (fun i wr=>∃ j:Nat,j≤n∧i=.int .i64 j∧Below w.heap.size w wr∧(Zc1 (ps.drop j)&&kb)=res) (fun i _=>n - (intOf i).toNat)
 case atStart=>exact ⟨0,Nat.zero_le _,rfl,Below.refl _ _,HR.out⟩
 case round =>
  obtain ⟨j,hj,rfl,hbr,hrs⟩:=hrel
  have HBR:=Zb hbr
  have HRS:=Zb hrs
  have hwz:w.heap.size≤wr.heap.size:=hbr.size
  clear hbr hrs
  by_cases hlt:j<n
  ·have hlt':(j:Int)<n:=by omega
   obtain ⟨⟨x,⟨tk,tb,tn,ts,tks,tts⟩⟩,hx⟩:∃ x,ps[j]?=some x:=⟨_,List.getElem?_eq_getElem (by have:=HN.out;omega)⟩
   have HX:=Zb hx
   obtain ⟨bl,off,rfl,hbl,hc⟩:=HP.out.resolve_left (by intro e;rw [e] at hx;simp at hx)
   obtain ⟨cx,_,v0,v1,v2,v3,v4,v5,⟨c0,c1,c2,c3,c4,c5⟩,hv⟩:=(hc j _ hx).below (HBR.out.mono hB) hbl
   have hxm:=(HS.out _ (List.mem_of_getElem? hx)).2
   simp only at cx hv hxm
   have hv0:=hv
   simp only [Zaw] at hv
   obtain ⟨kaa,kcc,laa,lcc,hag,_⟩:=hv
   obtain ⟨rfl,rfl,rfl,rfl,rfl,rfl⟩:v0=.int .i64 tk∧v1=.bool tb∧v2=.int .i64 tn∧v3=.string ts∧v4=.slice kaa tks.length kcc∧v5=.slice laa tts.length lcc:=by
    simpa using hag
   have HST:=Zb (fun W (hb:Below wr.heap.size wr W)=>Zgr _ B _ W (by have:=hb.size;omega) (hv0.below (hb.mono (by omega))) (HE.out.below (Za HBR.out hb) HE.out.room).tabs hxm)
   obtain ⟨sb,hsb⟩:∃ r,(decide (checkN (.mk tk tb tn ts tks tts)=0)&&Zgn (.mk tk tb tn ts tks tts))=r:=⟨_,rfl⟩
   rw [hsb] at HST
   have HE2:Hid (res=((sb&&Zc1 (ps.drop (j+1)))&&kb)):=by
    show _=_
    rw [← HRS.out,Zsg HX.out]
    simp only
    rw [hsb]
   clear hc hx hag hv0 hxm hsb
   go_upto_region 4 with fail
   generalize hW2:World.alloc _ _=W2
   have hr2:=Zl wr #[.string x,.int .i64 tk,.bool tb,.int .i64 tn,.string ts,.slice kaa tks.length kcc,.slice laa tts.length lcc] 79
   rw [hW2] at hr2
   have HB2:Hid (Below wr.heap.size wr W2):=by rw [← hW2];exact (Below.refl _ _).alloc (Nat.le_refl _) _
   have k1:=hr2.cell 1 rfl
   have k2:=hr2.cell 2 rfl
   have k3:=hr2.cell 3 rfl
   have k4:=hr2.cell 4 rfl
   have k5:=hr2.cell 5 rfl
   have k6:=hr2.cell 6 rfl
   clear hW2 hr2 cx c0 c1 c2 c3 c4 c5
   go_wp2_with fail
   refine (HST.out W2 HB2.out).mono ?_
   rintro e w3 ⟨rfl,hb3⟩
   have HB3:=Zb (Za HBR.out (Za HB2.out hb3))
   clear hb3 k1 k2 k3 k4 k5 k6
   cases sb with
   | false =>
    have HF:Hid (res=false):=HE2.out
    go_wp2_with fail
    go_ret
    exact ⟨by rw [HF.out];rfl,HB3.out⟩
   | true =>
    have HN2:Hid ((Zc1 (ps.drop (j+1))&&kb)=res):=HE2.out.symm
    go_wp2_with fail
    go_roundw
    case rel=>exact ⟨j+1,by omega,by go_num,HB3.out,HN2.out⟩
    case measure=>simp [intOf];omega
  ·have HF:Hid (res=kb):=by
    show _=_
    rw [← HRS.out,List.drop_of_length_le (by have:=HN.out;omega)];rfl
   have hlt':¬ (j:Int)<n:=by omega
   go_wp2_with fail
   refine (HKY.out wr HBR.out).mono ?_
   rintro e w3 ⟨rfl,hb3⟩
   have HB3:=Zb (Za HBR.out hb3)
   clear hb3
   go_wp2_with fail
   go_ret
   exact ⟨by rw [HF.out];rfl,HB3.out⟩
structure Zzr (g:Zy):Prop where
 nodes:g.nodes.length≤2000000
 rels:g.rels.length≤2000000
 ofNode:∀ n ∈ g.nodes,(∀ x ∈ n.labels,x.size≤140737488355328)∧∀ q ∈ n.props,q.1.size≤140737488355328∧Zct q.2
 ofRel:∀ r ∈ g.rels,r.type.size≤140737488355328∧∀ q ∈ r.props,q.1.size≤140737488355328∧Zct q.2
theorem Zzs (g:Zy) (B:Nat) (v:Value) (w:World) (hB:B≤w.heap.size) (hE:Env w) (hg:Zq B w v g) (hz:Zzr g):Calls Tryz.prog 93 #[v] w fun e w'=>e=.returned (.bool (decide ((g.nodes.length:Int)+(g.rels.length:Int)≤65536)))∧Below w.heap.size w w':=by
 obtain ⟨na,nc,ra,rc,rfl,hn,hr⟩:=hg
 obtain ⟨h60,h61,hz1,hz2⟩:=hz
 have HE:=Zb hE
 obtain ⟨res,hres⟩:∃ r,decide ((g.nodes.length:Int)+(g.rels.length:Int)≤65536)=r:=⟨_,rfl⟩
 have HR:=Zb hres
 rw [hres]
 clear hres hE
 obtain ⟨ns,rs,nn,nr⟩:=g
 simp only at hn hr h60 h61 hz1 hz2 HR ⊢
 obtain ⟨a',c',e1,h1,h2,hp3⟩:=hn
 obtain ⟨rfl,rfl⟩:na=a'∧nc=c':=by injection e1 with e1 _ e2;exact ⟨e1,e2⟩
 obtain ⟨a',c',e2,r1,r2,hq3⟩:=hr
 obtain ⟨rfl,rfl⟩:ra=a'∧rc=c':=by injection e2 with e1 _ e2;exact ⟨e1,e2⟩
 have HP:=Zb hp3
 have HQ:=Zb hq3
 have HS1:=Zb hz1
 have HS2:=Zb hz2
 obtain ⟨n,hn⟩:∃ n,ns.length=n:=⟨_,rfl⟩
 have HN:=Zb hn
 obtain ⟨m,hm⟩:∃ m,rs.length=m:=⟨_,rfl⟩
 have HM:=Zb hm
 rw [hn] at h1 h60
 rw [hm] at r1 h61
 rw [hn,hm]
 clear hp3 hq3 hz1 hz2 hn hm e1 e2
 have hle:n≤9223372036854775807:=by omega
 have hlm:m≤9223372036854775807:=by omega
 go_enter Tryz.func93,Tryz.ntmps93
 go_upto_region 1 with fail
 generalize hW1:World.alloc _ _=W1
 have hr1:=Zl w #[.slice na n nc,.slice ra m rc,.int .i64 nn,.int .i64 nr] 25
 rw [hW1] at hr1
 have HB1:Hid (Below w.heap.size w W1):=by rw [← hW1];exact (Below.refl _ _).alloc (Nat.le_refl _) _
 have HR1:=Zb hr1
 have q0:=hr1.cell 0 rfl
 have q1:=hr1.cell 1 rfl
 clear hW1 hr1
 have hsum:IntKind.i64.wrap ((n:Int)+(m:Int))=(n:Int)+(m:Int):=by rw [IntKind.wrap_i64];omega
 have HR2:Hid (decide ((n:Int)+(m:Int)≤65536)=res):=by
  show _=_
  rw [← HR.out,HN.out,HM.out]
 go_wp2_with fail
 go_ret
 exact ⟨by rw [← HR2.out];rfl,HB1.out⟩
def Za4  : List Zp→Bool
 | []=>true
 | n::r=>nrB ⟨#[]⟩ n.labels&&Za4 r
def Zcj  : List Jj→Bool
 | []=>true
 | n::r=>Jn n.type.data.toList&&Zcj r
def Js  : List Zp→Bool
 | []=>true
 | n::r=>Zhs n.props&&Js r
def Jo  : List Jj→Bool
 | []=>true
 | n::r=>Zhs n.props&&Jo r
theorem Zqj {ns:List Zp} {j:Nat} {n:Zp} (h:ns[j]?=some n):Za4 (ns.drop j)=(nrB ⟨#[]⟩ n.labels&&Za4 (ns.drop (j+1))):=by
 obtain ⟨hj,hx⟩:=List.getElem?_eq_some_iff.1 h
 rw [List.drop_eq_getElem_cons hj,hx,Za4]
theorem Zsh {ns:List Jj} {j:Nat} {n:Jj} (h:ns[j]?=some n):Zcj (ns.drop j)=(Jn n.type.data.toList&&Zcj (ns.drop (j+1))):=by
 obtain ⟨hj,hx⟩:=List.getElem?_eq_some_iff.1 h
 rw [List.drop_eq_getElem_cons hj,hx,Zcj]
theorem Zj5 {ns:List Zp} {j:Nat} {n:Zp} (h:ns[j]?=some n):Js (ns.drop j)=(Zhs n.props&&Js (ns.drop (j+1))):=by
 obtain ⟨hj,hx⟩:=List.getElem?_eq_some_iff.1 h
 rw [List.drop_eq_getElem_cons hj,hx,Js]
theorem Zlo {ns:List Jj} {j:Nat} {n:Jj} (h:ns[j]?=some n):Jo (ns.drop j)=(Zhs n.props&&Jo (ns.drop (j+1))):=by
 obtain ⟨hj,hx⟩:=List.getElem?_eq_some_iff.1 h
 rw [List.drop_eq_getElem_cons hj,hx,Jo]
theorem Zqk (g:Zy) (B:Nat) (v:Value) (w:World) (hB:B≤w.heap.size) (hE:Env w) (hg:Zq B w v g) (hz:Zzr g):Calls Tryz.prog 95 #[v] w fun e w'=>e=.returned (.bool (Za4 g.nodes))∧Below w.heap.size w w':=by
 obtain ⟨na,nc,ra,rc,rfl,hn,hr⟩:=hg
 obtain ⟨h60,h61,hz1,hz2⟩:=hz
 have HE:=Zb hE
 obtain ⟨res,hres⟩:∃ r,Za4 g.nodes=r:=⟨_,rfl⟩
 have HR:=Zb hres
 rw [hres]
 clear hres hE
 obtain ⟨ns,rs,nn,nr⟩:=g
 simp only at hn hr h60 h61 hz1 hz2 HR ⊢
 obtain ⟨a',c',e1,h1,h2,hp3⟩:=hn
 obtain ⟨rfl,rfl⟩:na=a'∧nc=c':=by injection e1 with e1 _ e2;exact ⟨e1,e2⟩
 obtain ⟨a',c',e2,r1,r2,hq3⟩:=hr
 obtain ⟨rfl,rfl⟩:ra=a'∧rc=c':=by injection e2 with e1 _ e2;exact ⟨e1,e2⟩
 have HP:=Zb hp3
 have HQ:=Zb hq3
 have HS1:=Zb hz1
 have HS2:=Zb hz2
 obtain ⟨n,hn⟩:∃ n,ns.length=n:=⟨_,rfl⟩
 have HN:=Zb hn
 obtain ⟨m,hm⟩:∃ m,rs.length=m:=⟨_,rfl⟩
 have HM:=Zb hm
 rw [hn] at h1 h60
 rw [hm] at r1 h61
 rw [hn,hm]
 clear hp3 hq3 hz1 hz2 hn hm e1 e2
 have hle:n≤9223372036854775807:=by omega
 have hlm:m≤9223372036854775807:=by omega
 go_enter Tryz.func95,Tryz.ntmps95
 go_upto_region 1 with fail
 generalize hW1:World.alloc _ _=W1
 have hr1:=Zl w #[.slice na n nc,.slice ra m rc,.int .i64 nn,.int .i64 nr] 25
 rw [hW1] at hr1
 have HB1:Hid (Below w.heap.size w W1):=by rw [← hW1];exact (Below.refl _ _).alloc (Nat.le_refl _) _
 have HR1:=Zb hr1
 have q0:=hr1.cell 0 rfl
 clear hW1 hr1
 have HR2:=HR
 go_wp2_with fail
 clear q0
 go_loopw [8] (fun i wr=>∃ j:Nat,j≤n∧i=.int .i64 j∧Below W1.heap.size W1 wr∧Za4 (ns.drop j)=res) (fun i _=>n - (intOf i).toNat)
 case atStart=>exact ⟨0,Nat.zero_le _,rfl,Below.refl _ _,HR2.out⟩
 case round =>
  obtain ⟨j,hj,rfl,hbr,hrs⟩:=hrel
  have HBR:=Zb hbr
  have HRS:=Zb hrs
  have hwz:w.heap.size<wr.heap.size:=by
   have:=HR1.out.lt
   have:=hbr.size
   omega
  have HBW:=Zb (Za HB1.out hbr)
  clear hbr hrs
  by_cases hlt:j<n
  ·have hlt':(j:Int)<n:=by omega
   obtain ⟨⟨xi,xl,xp⟩,hx⟩:∃ q,ns[j]?=some q:=⟨_,List.getElem?_eq_getElem (by have:=HN.out;omega)⟩
   have HX:=Zb hx
   obtain ⟨bl,off,rfl,hbl,hc⟩:=HP.out.resolve_left (by intro e;rw [e] at hx;simp at hx)
   obtain ⟨la,lc,pv,⟨c0,c1,c2⟩,⟨hl1,hl2⟩,hk,hp⟩:=(hc j _ hx).below (HBW.out.mono hB) hbl
   obtain ⟨hxl,hxp⟩:=HS1.out _ (List.mem_of_getElem? hx)
   simp only at c0 c1 c2 hl1 hl2 hk hp hxl hxp
   have HK1:=Zb (fun W (hb:Below wr.heap.size wr W)=>Zr9 xl B la lc W (by have:=hb.size;omega) (HE.out.below (Za HBW.out hb) HE.out.room) (hk.below (hb.mono (by omega))) hl1 hl2 hxl)
   obtain ⟨pa,pc,rfl,_,_,_⟩:=hp
   obtain ⟨bn,hbn⟩:∃ b,nrB ⟨#[]⟩ xl=b:=⟨_,rfl⟩
   rw [hbn] at HK1
   have HE2:Hid (res=(bn&&Za4 (ns.drop (j+1)))):=by
    show _=_
    rw [← HRS.out,Zqj HX.out]
    simp only
    rw [hbn]
   clear hc hx hbn
   go_upto_region 4 with fail
   generalize hW2:World.alloc _ _=W2
   have hr2:=Zl wr #[.int .i64 xi,.slice la xl.length lc,.slice pa xp.length pc] 47
   rw [hW2] at hr2
   have HB2:Hid (Below wr.heap.size wr W2):=by rw [← hW2];exact (Below.refl _ _).alloc (Nat.le_refl _) _
   have k0:=hr2.cell 1 rfl
   clear hW2 hr2 c0 c1 c2 hk hxl hxp hl1 hl2
   go_wp2_with fail
   refine (HK1.out W2 HB2.out).mono ?_
   rintro e w3 ⟨rfl,hb3⟩
   have HB3:=Zb (Za HBR.out (Za HB2.out hb3))
   clear hb3 k0
   cases bn with
   | false =>
    have HF:Hid (res=false):=HE2.out
    go_wp2_with fail
    go_ret
    exact ⟨by rw [HF.out];rfl,Za HB1.out HB3.out⟩
   | true =>
    have HN2:Hid (Za4 (ns.drop (j+1))=res):=HE2.out.symm
    go_wp2_with fail
    go_roundw
    case rel=>exact ⟨j+1,by omega,by go_num,HB3.out,HN2.out⟩
    case measure=>simp [intOf];omega
  ·have HF:Hid (res=true):=by
    show _=_
    rw [← HRS.out,List.drop_of_length_le (by have:=HN.out;omega)];rfl
   have hlt':¬ (j:Int)<n:=by omega
   go_wp2_with fail
   go_ret
   exact ⟨by rw [HF.out];rfl,HBW.out⟩
theorem Zsi (g:Zy) (B:Nat) (v:Value) (w:World) (hB:B≤w.heap.size) (hE:Env w) (hg:Zq B w v g) (hz:Zzr g):Calls Tryz.prog 97 #[v] w fun e w'=>e=.returned (.bool (Zcj g.rels))∧Below w.heap.size w w':=by
 obtain ⟨na,nc,ra,rc,rfl,hn,hr⟩:=hg
 obtain ⟨h60,h61,hz1,hz2⟩:=hz
 have HE:=Zb hE
 obtain ⟨res,hres⟩:∃ r,Zcj g.rels=r:=⟨_,rfl⟩
 have HR:=Zb hres
 rw [hres]
 clear hres hE
 obtain ⟨ns,rs,nn,nr⟩:=g
 simp only at hn hr h60 h61 hz1 hz2 HR ⊢
 obtain ⟨a',c',e1,h1,h2,hp3⟩:=hn
 obtain ⟨rfl,rfl⟩:na=a'∧nc=c':=by injection e1 with e1 _ e2;exact ⟨e1,e2⟩
 obtain ⟨a',c',e2,r1,r2,hq3⟩:=hr
 obtain ⟨rfl,rfl⟩:ra=a'∧rc=c':=by injection e2 with e1 _ e2;exact ⟨e1,e2⟩
 have HP:=Zb hp3
 have HQ:=Zb hq3
 have HS1:=Zb hz1
 have HS2:=Zb hz2
 obtain ⟨n,hn⟩:∃ n,ns.length=n:=⟨_,rfl⟩
 have HN:=Zb hn
 obtain ⟨m,hm⟩:∃ m,rs.length=m:=⟨_,rfl⟩
 have HM:=Zb hm
 rw [hn] at h1 h60
 rw [hm] at r1 h61
 rw [hn,hm]
 clear hp3 hq3 hz1 hz2 hn hm e1 e2
 have hle:n≤9223372036854775807:=by omega
 have hlm:m≤9223372036854775807:=by omega
 go_enter Tryz.func97,Tryz.ntmps97
 go_upto_region 1 with fail
 generalize hW1:World.alloc _ _=W1
 have hr1:=Zl w #[.slice na n nc,.slice ra m rc,.int .i64 nn,.int .i64 nr] 25
 rw [hW1] at hr1
 have HB1:Hid (Below w.heap.size w W1):=by rw [← hW1];exact (Below.refl _ _).alloc (Nat.le_refl _) _
 have HR1:=Zb hr1
 have q1:=hr1.cell 1 rfl
 clear hW1 hr1
 have HR2:=HR
 go_wp2_with fail
 clear q1
 go_loopw [8] (fun i wr=>∃ j:Nat,j≤m∧i=.int .i64 j∧Below W1.heap.size W1 wr∧Zcj (rs.drop j)=res) (fun i _=>m - (intOf i).toNat)
 case atStart=>exact ⟨0,Nat.zero_le _,rfl,Below.refl _ _,HR2.out⟩
 case round =>
  obtain ⟨j,hj,rfl,hbr,hrs⟩:=hrel
  have HBR:=Zb hbr
  have HRS:=Zb hrs
  have hwz:w.heap.size<wr.heap.size:=by
   have:=HR1.out.lt
   have:=hbr.size
   omega
  have HBW:=Zb (Za HB1.out hbr)
  clear hbr hrs
  by_cases hlt:j<m
  ·have hlt':(j:Int)<m:=by omega
   obtain ⟨⟨xi,fr,tt,ty,xp⟩,hx⟩:∃ q,rs[j]?=some q:=⟨_,List.getElem?_eq_getElem (by have:=HM.out;omega)⟩
   have HX:=Zb hx
   obtain ⟨bl,off,rfl,hbl,hc⟩:=HQ.out.resolve_left (by intro e;rw [e] at hx;simp at hx)
   obtain ⟨pv,⟨c0,c1,c2,c3,c4⟩,_,hp⟩:=(hc j _ hx).below (HBW.out.mono hB) hbl
   obtain ⟨hxl,hxp⟩:=HS2.out _ (List.mem_of_getElem? hx)
   simp only at c0 c1 c2 c3 c4 hp hxl hxp
   have HK1:=Zb (fun W (hb:Below wr.heap.size wr W)=>Zel ty hxl W (HE.out.below (Za HBW.out hb) HE.out.room))
   obtain ⟨pa,pc,rfl,_,_,_⟩:=hp
   obtain ⟨bn,hbn⟩:∃ b,Jn ty.data.toList=b:=⟨_,rfl⟩
   rw [hbn] at HK1
   have HE2:Hid (res=(bn&&Zcj (rs.drop (j+1)))):=by
    show _=_
    rw [← HRS.out,Zsh HX.out]
    simp only
    rw [hbn]
   clear hc hx hbn
   go_upto_region 4 with fail
   generalize hW2:World.alloc _ _=W2
   have hr2:=Zl wr #[.int .i64 xi,.int .i64 fr,.int .i64 tt,.string ty,.slice pa xp.length pc] 49
   rw [hW2] at hr2
   have HB2:Hid (Below wr.heap.size wr W2):=by rw [← hW2];exact (Below.refl _ _).alloc (Nat.le_refl _) _
   have k0:=hr2.cell 3 rfl
   clear hW2 hr2 c0 c1 c2 c3 c4 hxl hxp
   go_wp2_with fail
   refine (HK1.out W2 HB2.out).mono ?_
   rintro e w3 ⟨rfl,hb3⟩
   have HB3:=Zb (Za HBR.out (Za HB2.out hb3))
   clear hb3 k0
   cases bn with
   | false =>
    have HF:Hid (res=false):=HE2.out
    go_wp2_with fail
    go_ret
    exact ⟨by rw [HF.out];rfl,Za HB1.out HB3.out⟩
   | true =>
    have HN2:Hid (Zcj (rs.drop (j+1))=res):=HE2.out.symm
    go_wp2_with fail
    go_roundw
    case rel=>exact ⟨j+1,by omega,by go_num,HB3.out,HN2.out⟩
    case measure=>simp [intOf];omega
  ·have HF:Hid (res=true):=by
    show _=_
    rw [← HRS.out,List.drop_of_length_le (by have:=HM.out;omega)];rfl
   have hlt':¬ (j:Int)<m:=by omega
   go_wp2_with fail
   go_ret
   exact ⟨by rw [HF.out];rfl,HBW.out⟩
theorem Zsj (g:Zy) (B:Nat) (v:Value) (w:World) (hB:B≤w.heap.size) (hE:Env w) (hg:Zq B w v g) (hz:Zzr g):Calls Tryz.prog 96 #[v] w fun e w'=>e=.returned (.bool ((Js g.nodes&&Jo g.rels)))∧Below w.heap.size w w':=by
 obtain ⟨na,nc,ra,rc,rfl,hn,hr⟩:=hg
 obtain ⟨h60,h61,hz1,hz2⟩:=hz
 have HE:=Zb hE
 obtain ⟨res,hres⟩:∃ r,(Js g.nodes&&Jo g.rels)=r:=⟨_,rfl⟩
 have HR:=Zb hres
 rw [hres]
 clear hres hE
 obtain ⟨ns,rs,nn,nr⟩:=g
 simp only at hn hr h60 h61 hz1 hz2 HR ⊢
 obtain ⟨a',c',e1,h1,h2,hp3⟩:=hn
 obtain ⟨rfl,rfl⟩:na=a'∧nc=c':=by injection e1 with e1 _ e2;exact ⟨e1,e2⟩
 obtain ⟨a',c',e2,r1,r2,hq3⟩:=hr
 obtain ⟨rfl,rfl⟩:ra=a'∧rc=c':=by injection e2 with e1 _ e2;exact ⟨e1,e2⟩
 have HP:=Zb hp3
 have HQ:=Zb hq3
 have HS1:=Zb hz1
 have HS2:=Zb hz2
 obtain ⟨n,hn⟩:∃ n,ns.length=n:=⟨_,rfl⟩
 have HN:=Zb hn
 obtain ⟨m,hm⟩:∃ m,rs.length=m:=⟨_,rfl⟩
 have HM:=Zb hm
 rw [hn] at h1 h60
 rw [hm] at r1 h61
 rw [hn,hm]
 clear hp3 hq3 hz1 hz2 hn hm e1 e2
 have hle:n≤9223372036854775807:=by omega
 have hlm:m≤9223372036854775807:=by omega
 go_enter Tryz.func96,Tryz.ntmps96
 go_upto_region 1 with fail
 generalize hW1:World.alloc _ _=W1
 have hr1:=Zl w #[.slice na n nc,.slice ra m rc,.int .i64 nn,.int .i64 nr] 25
 rw [hW1] at hr1
 have HB1:Hid (Below w.heap.size w W1):=by rw [← hW1];exact (Below.refl _ _).alloc (Nat.le_refl _) _
 have HR1:=Zb hr1
 have q0:=hr1.cell 0 rfl
 clear hW1 hr1
 have HR2:=HR
 go_wp2_with fail
 clear q0
 go_loopw [10] (fun i wr=>∃ j:Nat,j≤n∧i=.int .i64 j∧Below W1.heap.size W1 wr∧(Js (ns.drop j)&&Jo rs)=res) (fun i _=>n - (intOf i).toNat)
 case atStart=>exact ⟨0,Nat.zero_le _,rfl,Below.refl _ _,HR2.out⟩
 case round =>
  obtain ⟨j,hj,rfl,hbr,hrs⟩:=hrel
  have HBR:=Zb hbr
  have HRS:=Zb hrs
  have hwz:w.heap.size<wr.heap.size:=by
   have:=HR1.out.lt
   have:=hbr.size
   omega
  have HBW:=Zb (Za HB1.out hbr)
  clear hbr hrs
  by_cases hlt:j<n
  ·have hlt':(j:Int)<n:=by omega
   obtain ⟨⟨xi,xl,xp⟩,hx⟩:∃ q,ns[j]?=some q:=⟨_,List.getElem?_eq_getElem (by have:=HN.out;omega)⟩
   have HX:=Zb hx
   obtain ⟨bl,off,rfl,hbl,hc⟩:=HP.out.resolve_left (by intro e;rw [e] at hx;simp at hx)
   obtain ⟨la,lc,pv,⟨c0,c1,c2⟩,⟨hl1,hl2⟩,hk,hp⟩:=(hc j _ hx).below (HBW.out.mono hB) hbl
   obtain ⟨hxl,hxp⟩:=HS1.out _ (List.mem_of_getElem? hx)
   simp only at c0 c1 c2 hl1 hl2 hk hp hxl hxp
   have HK1:=Zb (fun W (hb:Below wr.heap.size wr W)=>Zoq pv xp B W (by have:=hb.size;omega) (HE.out.below (Za HBW.out hb) HE.out.room) (hp.below (hb.mono (by omega))) hxp)
   obtain ⟨pa,pc,rfl,_,_,_⟩:=hp
   obtain ⟨bn,hbn⟩:∃ b,Zhs xp=b:=⟨_,rfl⟩
   rw [hbn] at HK1
   have HE2:Hid (res=((bn&&Js (ns.drop (j+1)))&&Jo rs)):=by
    show _=_
    rw [← HRS.out,Zj5 HX.out]
    simp only
    rw [hbn]
   clear hc hx hbn
   go_upto_region 4 with fail
   generalize hW2:World.alloc _ _=W2
   have hr2:=Zl wr #[.int .i64 xi,.slice la xl.length lc,.slice pa xp.length pc] 47
   rw [hW2] at hr2
   have HB2:Hid (Below wr.heap.size wr W2):=by rw [← hW2];exact (Below.refl _ _).alloc (Nat.le_refl _) _
   have k0:=hr2.cell 2 rfl
   clear hW2 hr2 c0 c1 c2 hk hxl hxp hl1 hl2
   go_wp2_with fail
   refine (HK1.out W2 HB2.out).mono ?_
   rintro e w3 ⟨rfl,hb3⟩
   have HB3:=Zb (Za HBR.out (Za HB2.out hb3))
   clear hb3 k0
   cases bn with
   | false =>
    have HF:Hid (res=false):=HE2.out
    go_wp2_with fail
    go_ret
    exact ⟨by rw [HF.out];rfl,Za HB1.out HB3.out⟩
   | true =>
    have HN2:Hid ((Js (ns.drop (j+1))&&Jo rs)=res):=HE2.out.symm
    go_wp2_with fail
    go_roundw
    case rel=>exact ⟨j+1,by omega,by go_num,HB3.out,HN2.out⟩
    case measure=>simp [intOf];omega
  ·have HR3:Hid (Jo rs=res):=by
    show _=_
    rw [← HRS.out,List.drop_of_length_le (by have:=HN.out;omega)];rfl
   have hlt':¬ (j:Int)<n:=by omega
   have HBA:=HBR
   have q1:=(HR1.out.below HBR.out HR1.out.lt).cell 1 rfl
   go_wp2_with fail
   clear hlt hlt' HRS hj HBR hwz HBW q1 HR2
   have HR2:=HR3
   clear HR3
   go_loopw [22] (fun i wr=>∃ j:Nat,j≤m∧i=.int .i64 j∧Below W1.heap.size W1 wr∧Jo (rs.drop j)=res) (fun i _=>m - (intOf i).toNat)
   case atStart=>exact ⟨0,Nat.zero_le _,rfl,HBA.out,HR2.out⟩
   case round =>
    obtain ⟨j,hj,rfl,hbr,hrs⟩:=hrel
    have HBR:=Zb hbr
    have HRS:=Zb hrs
    have hwz:w.heap.size<wr.heap.size:=by
     have:=HR1.out.lt
     have:=hbr.size
     omega
    have HBW:=Zb (Za HB1.out hbr)
    clear hbr hrs
    by_cases hlt:j<m
    ·have hlt':(j:Int)<m:=by omega
     obtain ⟨⟨xi,fr,tt,ty,xp⟩,hx⟩:∃ q,rs[j]?=some q:=⟨_,List.getElem?_eq_getElem (by have:=HM.out;omega)⟩
     have HX:=Zb hx
     obtain ⟨bl,off,rfl,hbl,hc⟩:=HQ.out.resolve_left (by intro e;rw [e] at hx;simp at hx)
     obtain ⟨pv,⟨c0,c1,c2,c3,c4⟩,_,hp⟩:=(hc j _ hx).below (HBW.out.mono hB) hbl
     obtain ⟨hxl,hxp⟩:=HS2.out _ (List.mem_of_getElem? hx)
     simp only at c0 c1 c2 c3 c4 hp hxl hxp
     have HK1:=Zb (fun W (hb:Below wr.heap.size wr W)=>Zoq pv xp B W (by have:=hb.size;omega) (HE.out.below (Za HBW.out hb) HE.out.room) (hp.below (hb.mono (by omega))) hxp)
     obtain ⟨pa,pc,rfl,_,_,_⟩:=hp
     obtain ⟨bn,hbn⟩:∃ b,Zhs xp=b:=⟨_,rfl⟩
     rw [hbn] at HK1
     have HE2:Hid (res=(bn&&Jo (rs.drop (j+1)))):=by
      show _=_
      rw [← HRS.out,Zlo HX.out]
      simp only
      rw [hbn]
     clear hc hx hbn
     go_upto_region 10 with fail
     generalize hW2:World.alloc _ _=W2
     have hr2:=Zl wr #[.int .i64 xi,.int .i64 fr,.int .i64 tt,.string ty,.slice pa xp.length pc] 49
     rw [hW2] at hr2
     have HB2:Hid (Below wr.heap.size wr W2):=by rw [← hW2];exact (Below.refl _ _).alloc (Nat.le_refl _) _
     have k0:=hr2.cell 4 rfl
     clear hW2 hr2 c0 c1 c2 c3 c4 hxl hxp
     go_wp2_with fail
     refine (HK1.out W2 HB2.out).mono ?_
     rintro e w3 ⟨rfl,hb3⟩
     have HB3:=Zb (Za HBR.out (Za HB2.out hb3))
     clear hb3 k0
     cases bn with
     | false =>
      have HF:Hid (res=false):=HE2.out
      go_wp2_with fail
      go_ret
      exact ⟨by rw [HF.out];rfl,Za HB1.out HB3.out⟩
     | true =>
      have HN2:Hid (Jo (rs.drop (j+1))=res):=HE2.out.symm
      go_wp2_with fail
      go_roundw
      case rel=>exact ⟨j+1,by omega,by go_num,HB3.out,HN2.out⟩
      case measure=>simp [intOf];omega
    ·have HF:Hid (res=true):=by
      show _=_
      rw [← HRS.out,List.drop_of_length_le (by have:=HM.out;omega)];rfl
     have hlt':¬ (j:Int)<m:=by omega
     go_wp2_with fail
     go_ret
     exact ⟨by rw [HF.out];rfl,HBW.out⟩
end
section
open Go.RowKit Go.Shelf
set_option maxHeartbeats 4000000
set_option maxRecDepth 100000
set_option linter.all false
attribute [local go_sem] Oper.semAt_some
def Zav (next:Int):Int→List Int→Bool
 | _,[]=>decide (0≤next)&&decide (next≤4611686018427387904)
 | l,x::r=>!decide (x<l)&&(!decide (next≤x)&&Zav next (x+1) r)
theorem Zp1 {next l:Int} {ks:List Int} {j:Nat} {x:Int} (h:ks[j]?=some x):Zav next l (ks.drop j)=(!decide (x<l)&&(!decide (next≤x)&&Zav next (x+1) (ks.drop (j+1)))):=by
 obtain ⟨hj,hx⟩:=List.getElem?_eq_some_iff.1 h
 rw [List.drop_eq_getElem_cons hj,hx,Zav]
theorem Zoa (xi:Int) (la:Option Addr) (ll lc:Nat) (pa:Option Addr) (pl pc:Nat) (w:World):Calls Tryz.prog 56 #[.agg #[.int .i64 xi,.slice la ll lc,.slice pa pl pc]] w fun e w'=>e=.returned (.int .i64 xi)∧Below w.heap.size w w':=by
 go_enter Tryz.func56,Tryz.ntmps56
 go_upto_region 1 with fail
 generalize hW1:World.alloc _ _=W1
 have hr:=Zl w #[.int .i64 xi,.slice la ll lc,.slice pa pl pc] 47
 rw [hW1] at hr
 have HB1:Hid (Below w.heap.size w W1):=by rw [← hW1];exact (Below.refl _ _).alloc (Nat.le_refl _) _
 have q0:=hr.cell 0 rfl
 clear hW1 hr
 go_wp2_with fail
 go_ret
 exact ⟨rfl,HB1.out⟩
theorem Zri (xi fr tt:Int) (ty:ByteArray) (pa:Option Addr) (pl pc:Nat) (w:World):Calls Tryz.prog 54 #[.agg #[.int .i64 xi,.int .i64 fr,.int .i64 tt,.string ty,.slice pa pl pc]] w fun e w'=>e=.returned (.int .i64 xi)∧Below w.heap.size w w':=by
 go_enter Tryz.func54,Tryz.ntmps54
 go_upto_region 1 with fail
 generalize hW1:World.alloc _ _=W1
 have hr:=Zl w #[.int .i64 xi,.int .i64 fr,.int .i64 tt,.string ty,.slice pa pl pc] 49
 rw [hW1] at hr
 have HB1:Hid (Below w.heap.size w W1):=by rw [← hW1];exact (Below.refl _ _).alloc (Nat.le_refl _) _
 have q0:=hr.cell 0 rfl
 clear hW1 hr
 go_wp2_with fail
 go_ret
 exact ⟨rfl,HB1.out⟩
theorem Zob (ks:List Zp) (next:Int) (B:Nat) (v:Value) (w:World) (hB:B≤w.heap.size) (hk:Zax B w v ks) (hx1:-9223372036854775808≤next) (hx2:next≤9223372036854775807) :
  Calls Tryz.prog 142 #[v,.func (.func 56) #[] #[],.int .i64 next] w fun e w'=>e=.returned (.bool (Zav next 0 (ks.map Zp.id)))∧Below w.heap.size w w':=by
 obtain ⟨ka,kc,rfl,h1,h2,hk3⟩:=hk
 have HK:=Zb hk3
 obtain ⟨n,hn⟩:∃ n,ks.length=n:=⟨_,rfl⟩
 have HN:=Zb hn
 rw [hn] at h1 ⊢
 obtain ⟨res,hres⟩:∃ r,Zav next 0 (ks.map Zp.id)=r:=⟨_,rfl⟩
 have HR:=Zb hres
 rw [hres]
 clear hk3 hn hres
 go_enter Tryz.func142,Tryz.ntmps142
 go_wp2_with fail
 go_loopw [13,7] (fun i l wr=>∃ (j:Nat) (s:Int),j≤n∧i=.int .i64 j∧l=.int .i64 s∧0≤s∧Below w.heap.size w wr∧Zav next s ((ks.map Zp.id).drop j)=res) (fun i _ _=>n - (intOf i).toNat)
 case atStart=>exact ⟨0,0,Nat.zero_le _,rfl,rfl,by omega,Below.refl _ _,HR.out⟩
 case round =>
  obtain ⟨j,s,hj,rfl,rfl,hs0,hbr,hrs⟩:=hrel
  have HBR:=Zb hbr
  have HRS:=Zb hrs
  have hwz:w.heap.size≤wr.heap.size:=hbr.size
  clear hbr hrs
  by_cases hlt:j<n
  ·have hlt':(j:Int)<n:=by omega
   obtain ⟨⟨xi,xl,xp⟩,hx⟩:∃ x,ks[j]?=some x:=⟨_,List.getElem?_eq_getElem (by have:=HN.out;omega)⟩
   have HX:Hid ((ks.map Zp.id)[j]?=some xi):=by
    show _=_
    rw [List.getElem?_map,hx];rfl
   obtain ⟨bl,off,rfl,hbl,hc⟩:=HK.out.resolve_left (by intro e;rw [e] at hx;simp at hx)
   obtain ⟨la,lc,pv,⟨c0,c1,c2⟩,_,_,hp⟩:=(hc j _ hx).below (HBR.out.mono hB) hbl
   simp only at c0 c1 c2 hp
   obtain ⟨pa,pc,rfl,_,_,_⟩:=hp
   have HE2:Hid (res=(!decide (xi<s)&&(!decide (next≤xi)&&Zav next (xi+1) ((ks.map Zp.id).drop (j+1))))):=by
    show _=_
    rw [← HRS.out,Zp1 HX.out]
   clear hc hx
   go_upto_region 5 with fail
   generalize hW2:World.alloc _ _=W2
   have hr2:=Zl wr #[.int .i64 xi,.slice la xl.length lc,.slice pa xp.length pc] 47
   rw [hW2] at hr2
   have HB2:Hid (Below wr.heap.size wr W2):=by rw [← hW2];exact (Below.refl _ _).alloc (Nat.le_refl _) _
   have k0:=hr2.cell 0 rfl
   have k1:=hr2.cell 1 rfl
   have k2:=hr2.cell 2 rfl
   clear hW2 hr2 c0 c1 c2
   go_wp2_with fail
   refine (Zoa xi la xl.length lc pa xp.length pc _).mono ?_
   rintro e w3 ⟨rfl,hb3⟩
   have HB3:=Zb (Za HBR.out (Za HB2.out hb3))
   clear hb3 k0 k1 k2
   by_cases a1:xi<s
   ·have HF:Hid (res=false):=by
     show _=_
     rw [HE2.out,decide_eq_true a1];rfl
    go_wp2_with fail
    go_ret
    exact ⟨by rw [HF.out];rfl,HB3.out⟩
   ·by_cases a2:next≤xi
    ·have HF:Hid (res=false):=by
      show _=_
      rw [HE2.out,decide_eq_false a1,decide_eq_true a2];rfl
     go_wp2_with fail
     go_ret
     exact ⟨by rw [HF.out];rfl,HB3.out⟩
    ·have HN2:Hid (Zav next (xi+1) ((ks.map Zp.id).drop (j+1))=res):=by
      show _=_
      rw [HE2.out,decide_eq_false a1,decide_eq_false a2];rfl
     have hwr:IntKind.i64.wrap (xi+1)=xi+1:=by rw [IntKind.wrap_i64];omega
     go_wp2_with fail
     go_roundw
     case rel=>exact ⟨j+1,xi+1,by omega,by go_num,rfl,by omega,HB3.out,HN2.out⟩
     case measure=>simp [intOf];omega
  ·have HF:Hid (res=(decide (0≤next)&&decide (next≤4611686018427387904))):=by
    show _=_
    rw [← HRS.out,List.drop_of_length_le (by have:=HN.out;simp;omega)];rfl
   have hlt':¬ (j:Int)<n:=by omega
   by_cases b1:0≤next
   ·have HF2:Hid (res=decide (next≤4611686018427387904)):=by
     show _=_
     rw [HF.out,decide_eq_true b1];rfl
    go_wp2_with fail
    go_ret
    exact ⟨by rw [HF2.out];rfl,HBR.out⟩
   ·have HF2:Hid (res=false):=by
     show _=_
     rw [HF.out,decide_eq_false b1];rfl
    go_wp2_with fail
    go_ret
    exact ⟨by rw [HF2.out];rfl,HBR.out⟩
theorem Zoc (ks:List Jj) (next:Int) (B:Nat) (v:Value) (w:World) (hB:B≤w.heap.size) (hk:Zbe B w v ks) (hx1:-9223372036854775808≤next) (hx2:next≤9223372036854775807) :
  Calls Tryz.prog 143 #[v,.func (.func 54) #[] #[],.int .i64 next] w fun e w'=>e=.returned (.bool (Zav next 0 (ks.map Jj.id)))∧Below w.heap.size w w':=by
 obtain ⟨ka,kc,rfl,h1,h2,hk3⟩:=hk
 have HK:=Zb hk3
 obtain ⟨n,hn⟩:∃ n,ks.length=n:=⟨_,rfl⟩
 have HN:=Zb hn
 rw [hn] at h1 ⊢
 obtain ⟨res,hres⟩:∃ r,Zav next 0 (ks.map Jj.id)=r:=⟨_,rfl⟩
 have HR:=Zb hres
 rw [hres]
 clear hk3 hn hres
 go_enter Tryz.func143,Tryz.ntmps143
 go_wp2_with fail
 go_loopw [13,7] (fun i l wr=>∃ (j:Nat) (s:Int),j≤n∧i=.int .i64 j∧l=.int .i64 s∧0≤s∧Below w.heap.size w wr∧Zav next s ((ks.map Jj.id).drop j)=res) (fun i _ _=>n - (intOf i).toNat)
 case atStart=>exact ⟨0,0,Nat.zero_le _,rfl,rfl,by omega,Below.refl _ _,HR.out⟩
 case round =>
  obtain ⟨j,s,hj,rfl,rfl,hs0,hbr,hrs⟩:=hrel
  have HBR:=Zb hbr
  have HRS:=Zb hrs
  have hwz:w.heap.size≤wr.heap.size:=hbr.size
  clear hbr hrs
  by_cases hlt:j<n
  ·have hlt':(j:Int)<n:=by omega
   obtain ⟨⟨xi,fr,tt,ty,xp⟩,hx⟩:∃ x,ks[j]?=some x:=⟨_,List.getElem?_eq_getElem (by have:=HN.out;omega)⟩
   have HX:Hid ((ks.map Jj.id)[j]?=some xi):=by
    show _=_
    rw [List.getElem?_map,hx];rfl
   obtain ⟨bl,off,rfl,hbl,hc⟩:=HK.out.resolve_left (by intro e;rw [e] at hx;simp at hx)
   obtain ⟨pv,⟨c0,c1,c2,c3,c4⟩,_,hp⟩:=(hc j _ hx).below (HBR.out.mono hB) hbl
   simp only at c0 c1 c2 c3 c4 hp
   obtain ⟨pa,pc,rfl,_,_,_⟩:=hp
   have HE2:Hid (res=(!decide (xi<s)&&(!decide (next≤xi)&&Zav next (xi+1) ((ks.map Jj.id).drop (j+1))))):=by
    show _=_
    rw [← HRS.out,Zp1 HX.out]
   clear hc hx
   go_upto_region 5 with fail
   generalize hW2:World.alloc _ _=W2
   have hr2:=Zl wr #[.int .i64 xi,.int .i64 fr,.int .i64 tt,.string ty,.slice pa xp.length pc] 49
   rw [hW2] at hr2
   have HB2:Hid (Below wr.heap.size wr W2):=by rw [← hW2];exact (Below.refl _ _).alloc (Nat.le_refl _) _
   have k0:=hr2.cell 0 rfl
   have k1:=hr2.cell 1 rfl
   have k2:=hr2.cell 2 rfl
   have k3:=hr2.cell 3 rfl
   have k4:=hr2.cell 4 rfl
   clear hW2 hr2 c0 c1 c2 c3 c4
   go_wp2_with fail
   refine (Zri xi fr tt ty pa xp.length pc _).mono ?_
   rintro e w3 ⟨rfl,hb3⟩
   have HB3:=Zb (Za HBR.out (Za HB2.out hb3))
   clear hb3 k0 k1 k2 k3 k4
   by_cases a1:xi<s
   ·have HF:Hid (res=false):=by
     show _=_
     rw [HE2.out,decide_eq_true a1];rfl
    go_wp2_with fail
    go_ret
    exact ⟨by rw [HF.out];rfl,HB3.out⟩
   ·by_cases a2:next≤xi
    ·have HF:Hid (res=false):=by
      show _=_
      rw [HE2.out,decide_eq_false a1,decide_eq_true a2];rfl
     go_wp2_with fail
     go_ret
     exact ⟨by rw [HF.out];rfl,HB3.out⟩
    ·have HN2:Hid (Zav next (xi+1) ((ks.map Jj.id).drop (j+1))=res):=by
      show _=_
      rw [HE2.out,decide_eq_false a1,decide_eq_false a2];rfl
     have hwr:IntKind.i64.wrap (xi+1)=xi+1:=by rw [IntKind.wrap_i64];omega
     go_wp2_with fail
     go_roundw
     case rel=>exact ⟨j+1,xi+1,by omega,by go_num,rfl,by omega,HB3.out,HN2.out⟩
     case measure=>simp [intOf];omega
  ·have HF:Hid (res=(decide (0≤next)&&decide (next≤4611686018427387904))):=by
    show _=_
    rw [← HRS.out,List.drop_of_length_le (by have:=HN.out;simp;omega)];rfl
   have hlt':¬ (j:Int)<n:=by omega
   by_cases b1:0≤next
   ·have HF2:Hid (res=decide (next≤4611686018427387904)):=by
     show _=_
     rw [HF.out,decide_eq_true b1];rfl
    go_wp2_with fail
    go_ret
    exact ⟨by rw [HF2.out];rfl,HBR.out⟩
   ·have HF2:Hid (res=false):=by
     show _=_
     rw [HF.out,decide_eq_false b1];rfl
    go_wp2_with fail
    go_ret
    exact ⟨by rw [HF2.out];rfl,HBR.out⟩
theorem Zod (g:Zy) (B:Nat) (v:Value) (w:World) (hB:B≤w.heap.size) (hg:Zq B w v g) (hn1:-9223372036854775808≤g.nn∧g.nn≤9223372036854775807) (hn2:-9223372036854775808≤g.nr∧g.nr≤9223372036854775807):Calls Tryz.prog 94 #[v] w fun e w'=>e=.returned (.bool (Zav g.nn 0 (g.nodes.map Zp.id)&&Zav g.nr 0 (g.rels.map Jj.id)))∧Below w.heap.size w w':=by
 obtain ⟨na,nc,ra,rc,rfl,hn,hr⟩:=hg
 have HK1:=Zb (fun W (hb:Below w.heap.size w W)=>Zob g.nodes g.nn B _ W (by have:=hb.size;omega) (hn.below (hb.mono hB)) hn1.1 hn1.2)
 have HK2:=Zb (fun W (hb:Below w.heap.size w W)=>Zoc g.rels g.nr B _ W (by have:=hb.size;omega) (hr.below (hb.mono hB)) hn2.1 hn2.2)
 obtain ⟨ns,rs,nn,nr⟩:=g
 simp only at HK1 HK2 ⊢
 obtain ⟨b1,hb1⟩:∃ b,Zav nn 0 (ns.map Zp.id)=b:=⟨_,rfl⟩
 obtain ⟨b2,hb2⟩:∃ b,Zav nr 0 (rs.map Jj.id)=b:=⟨_,rfl⟩
 rw [hb1] at HK1 ⊢
 rw [hb2] at HK2 ⊢
 generalize ns.length=n at *
 generalize rs.length=m at *
 clear hb1 hb2 hn hr
 go_enter Tryz.func94,Tryz.ntmps94
 go_upto_region 1 with fail
 generalize hW1:World.alloc _ _=W1
 have hr1:=Zl w #[.slice na n nc,.slice ra m rc,.int .i64 nn,.int .i64 nr] 25
 rw [hW1] at hr1
 have HB1:Hid (Below w.heap.size w W1):=by rw [← hW1];exact (Below.refl _ _).alloc (Nat.le_refl _) _
 have HR1:=Zb hr1
 have q0:=hr1.cell 0 rfl
 have q2:=hr1.cell 2 rfl
 clear hW1 hr1
 go_wp2_with fail
 refine (HK1.out W1 HB1.out).mono ?_
 rintro e w2 ⟨rfl,hb2⟩
 have HB2:=Zb (Za HB1.out hb2)
 have k1:=(HR1.out.below hb2 HR1.out.lt).cell 1 rfl
 have k3:=(HR1.out.below hb2 HR1.out.lt).cell 3 rfl
 clear hb2 q0 q2
 cases b1 with
 | false =>
  go_wp2_with fail
  go_ret
  exact ⟨rfl,HB2.out⟩
 | true =>
  go_wp2_with fail
  refine (HK2.out w2 HB2.out).mono ?_
  rintro e w3 ⟨rfl,hb3⟩
  have HB3:=Zb (Za HB2.out hb3)
  clear hb3 k1 k3
  go_wp2_with fail
  go_ret
  exact ⟨rfl,HB3.out⟩
end
section
open Go.RowKit Go.Shelf
set_option linter.all false
attribute [local go_sem] Oper.semAt_some
theorem Tryz.underlying188'  : Tryz.prog.underlying 188=some (.map 2 173):=by kernel_rfl
def Zfl (ns:List Zp):List (Int × Value):=ns.map fun n=>(n.id,.agg #[])
def Zev (es:List (Int × Value)):List Jj→Bool
 | []=>true
 | r::t=>Zdy r.fr es&&(Zdy r.tt es&&Zev es t)
theorem Zwb {es:List (Int × Value)} {rs:List Jj} {j:Nat} {r:Jj} (h:rs[j]?=some r):Zev es (rs.drop j)=(Zdy r.fr es&&(Zdy r.tt es&&Zev es (rs.drop (j+1)))):=by
 obtain ⟨hj,hx⟩:=List.getElem?_eq_some_iff.1 h
 rw [List.drop_eq_getElem_cons hj,hx,Zev]
theorem Zop {w:World} {b:Nat} {ns:List Zp} (h:MI w b (Zfl ns)) (k:Int) (hk:I64 k):(Instr.lookup 188 (.map (some b)) (.int .i64 k) true).run Tryz.prog w=.ok (.tuple #[.agg #[],.bool (Zdy k (Zfl ns))]) w:=by
 obtain ⟨v,hv,he⟩:=Znb Tryz.underlying188' Jah h k hk (fun p hp q hq _=>by
  unfold Zfl at hp hq
  obtain ⟨a,_,rfl⟩:=List.mem_map.1 hp
  obtain ⟨c,_,rfl⟩:=List.mem_map.1 hq
  rfl)
 have e:v=.agg #[]:=by
  rcases hv with ⟨q,hq,_,rfl⟩ | rfl
  ·unfold Zfl at hq
   obtain ⟨a,_,rfl⟩:=List.mem_map.1 hq
   rfl
  ·rfl
 rw [e] at he
 exact he
structure EnJ (w:World) (cs:Array Value) (es:List (Int × Value)) (wr:World):Prop where
 box:Rec wr w.heap.size cs 25
 map:MI wr (w.heap.size+1) es
 keep:Below w.heap.size w wr
theorem EnJ.below {w wr wz:World} {cs:Array Value} {es:List (Int × Value)} (h:EnJ w cs es wr) (hb:Below wr.heap.size wr wz):EnJ w cs es wz:=⟨h.box.below hb h.box.lt,h.map.below hb (Nat.le_refl _),Za h.keep hb⟩
set_option maxRecDepth 100000 in
set_option maxHeartbeats 4000000 in
theorem Zwc (g:Zy) (B:Nat) (v:Value) (w:World) (hB:B≤w.heap.size) (hg:Zq B w v g) (hd:(g.nodes.map Zp.id).Nodup) (hi:∀ n ∈ g.nodes,I64 n.id) (hi2:∀ r ∈ g.rels,I64 r.fr∧I64 r.tt):Calls Tryz.prog 98 #[v] w fun e w'=>e=.returned (.bool (Zev (Zfl g.nodes) g.rels))∧Below w.heap.size w w':=by
 have hmk:∀ W:World,(Instr.makeMap 188 none).run Tryz.prog W=.ok (.map (some W.heap.size)) (W.alloc (.map #[] 0)):=fun W=>rfl
 obtain ⟨na,nc,ra,rc,rfl,hn,hr⟩:=hg
 obtain ⟨res,hres⟩:∃ r,Zev (Zfl g.nodes) g.rels=r:=⟨_,rfl⟩
 have HR:=Zb hres
 rw [hres]
 clear hres
 obtain ⟨ns,rs,nn,nr⟩:=g
 simp only at hn hr hd hi hi2 HR ⊢
 obtain ⟨a',c',e1,h1,h2,hp3⟩:=hn
 obtain ⟨rfl,rfl⟩:na=a'∧nc=c':=by injection e1 with e1 _ e2;exact ⟨e1,e2⟩
 obtain ⟨a',c',e2,r1,r2,hq3⟩:=hr
 obtain ⟨rfl,rfl⟩:ra=a'∧rc=c':=by injection e2 with e1 _ e2;exact ⟨e1,e2⟩
 have HP:=Zb hp3
 have HQ:=Zb hq3
 have HD:=Zb hd
 have HI:=Zb hi
 have HI2:=Zb hi2
 obtain ⟨n,hn⟩:∃ n,ns.length=n:=⟨_,rfl⟩
 have HN:=Zb hn
 obtain ⟨m,hm⟩:∃ m,rs.length=m:=⟨_,rfl⟩
 have HM:=Zb hm
 rw [hn] at h1
 rw [hm] at r1
 rw [hn,hm]
 clear hp3 hq3 hn hm e1 e2 hd hi hi2
 go_enter Tryz.func98,Tryz.ntmps98
 go_upto_region 2 with fail
 generalize hW1:World.alloc _ _=W1
 have hj:EnJ w #[.slice na n nc,.slice ra m rc,.int .i64 nn,.int .i64 nr] [] W1:=by
  rw [← hW1]
  have hr1:=Zl w #[.slice na n nc,.slice ra m rc,.int .i64 nn,.int .i64 nr] 25
  refine ⟨hr1.below ((Below.refl _ _).alloc (Nat.le_refl _) _) hr1.lt,?_,?_⟩
  ·have:=Ziq (w.alloc (.cells #[.slice na n nc,.slice ra m rc,.int .i64 nn,.int .i64 nr] 25))
   rw [World.size_alloc] at this
   exact this
  ·exact ((Below.refl _ w).alloc (Nat.le_refl _) _).alloc (by simp) _
 have HJ:=Zb hj
 have q0:=hj.box.cell 0 rfl
 clear hW1 hj hmk
 go_wp2_with fail
 clear q0
 go_loopw [16] (fun i wr=>∃ j:Nat,j≤n∧i=.int .i64 j∧EnJ w #[.slice na n nc,.slice ra m rc,.int .i64 nn,.int .i64 nr] (Zfl (ns.take j)) wr) (fun i _=>n - (intOf i).toNat)
 case atStart=>exact ⟨0,Nat.zero_le _,rfl,HJ.out⟩
 case round =>
  obtain ⟨j,hj,rfl,hjr⟩:=hrel
  have HJR:=Zb hjr
  have HBW:=Zb hjr.keep
  have q1:=hjr.box.cell 1 rfl
  clear hjr HJ
  by_cases hlt:j<n
  ·have hlt':(j:Int)<n:=by omega
   obtain ⟨⟨xi,xl,xp⟩,hx⟩:∃ q,ns[j]?=some q:=⟨_,List.getElem?_eq_getElem (by have:=HN.out;omega)⟩
   obtain ⟨bl,off,rfl,hbl,hc⟩:=HP.out.resolve_left (by intro e;rw [e] at hx;simp at hx)
   obtain ⟨la,lc,pv,⟨c0,c1,c2⟩,_,_,hp⟩:=(hc j _ hx).below (HBW.out.mono hB) hbl
   simp only at c0 c1 c2 hp
   obtain ⟨pa,pc,rfl,_,_,_⟩:=hp
   have hxi:I64 xi:=HI.out _ (List.mem_of_getElem? hx)
   have hnew:∀ p ∈ Zfl (ns.take j),p.1≠xi:=by
    intro p hp e
    unfold Zfl at hp
    obtain ⟨a,ha,rfl⟩:=List.mem_map.1 hp
    obtain ⟨i,hi,hai⟩:=List.mem_take_iff_getElem.1 ha
    have hjl:=(List.getElem?_eq_some_iff.1 hx).1
    have hjx:=(List.getElem?_eq_some_iff.1 hx).2
    have h0:=List.pairwise_iff_getElem.1 HD.out i j (by simp;omega) (by simpa using hjl) (by omega)
    apply h0
    rw [List.getElem_map,List.getElem_map,hai,hjx]
    exact e
   have HNX:Hid (Zfl (ns.take j)++[(xi,.agg #[])]=Zfl (ns.take (j+1))):=by
    show _=_
    unfold Zfl
    rw [List.take_add_one,hx]
    simp
   clear hc hx q1
   go_upto_region 5 with fail
   generalize hW2:World.alloc _ _=W2
   have hr2:=Zl wr #[.int .i64 xi,.slice la xl.length lc,.slice pa xp.length pc] 47
   rw [hW2] at hr2
   have HB2:Hid (Below wr.heap.size wr W2):=by rw [← hW2];exact (Below.refl _ _).alloc (Nat.le_refl _) _
   have k0:=hr2.cell 0 rfl
   have HJ2:=Zb (HJR.out.below HB2.out)
   obtain ⟨w9,hrun,hm9,hsz9,hot9,hbe9⟩:=Zf6 Tryz.underlying188' HJ2.out.map xi (.agg #[]) hxi hnew
   have HJ9:Hid (EnJ w #[.slice (some ⟨bl,off,none⟩) n nc,.slice ra m rc,.int .i64 nn,.int .i64 nr] (Zfl (ns.take (j+1))) w9):=⟨HJ2.out.box.keep (hot9 _ (by omega)),HNX.out▸hm9,HJ2.out.keep.trans (hbe9.mono (by omega))⟩
   clear hW2 hr2 c0 c1 c2 hm9 hsz9 hot9 hbe9 hnew
   go_wp2_with fail
   go_roundw
   case rel=>exact ⟨j+1,by omega,by go_num,HJ9.out⟩
   case measure=>simp [intOf];omega
  ·have hlt':¬ (j:Int)<n:=by omega
   have HJA:Hid (EnJ w #[.slice na n nc,.slice ra m rc,.int .i64 nn,.int .i64 nr] (Zfl ns) wr):=by
    have:=HJR.out
    rwa [List.take_of_length_le (by have:=HN.out;omega)] at this
   go_wp2_with fail
   clear hlt hlt' hj HBW q1 HJR
   go_loopw [28] (fun i wr=>∃ j:Nat,j≤m∧i=.int .i64 j∧EnJ w #[.slice na n nc,.slice ra m rc,.int .i64 nn,.int .i64 nr] (Zfl ns) wr∧Zev (Zfl ns) (rs.drop j)=res) (fun i _=>m - (intOf i).toNat)
   case atStart=>exact ⟨0,Nat.zero_le _,rfl,HJA.out,HR.out⟩
   case round =>
    clear HJA
    obtain ⟨j,hj,rfl,hjr,hrs⟩:=hrel
    have HJR:=Zb hjr
    have HBW:=Zb hjr.keep
    have HRS:=Zb hrs
    clear hjr hrs
    by_cases hlt:j<m
    ·have hlt':(j:Int)<m:=by omega
     obtain ⟨⟨xi,fr,tt,ty,xp⟩,hx⟩:∃ q,rs[j]?=some q:=⟨_,List.getElem?_eq_getElem (by have:=HM.out;omega)⟩
     obtain ⟨bl,off,rfl,hbl,hc⟩:=HQ.out.resolve_left (by intro e;rw [e] at hx;simp at hx)
     obtain ⟨pv,⟨c0,c1,c2,c3,c4⟩,_,hp⟩:=(hc j _ hx).below (HBW.out.mono hB) hbl
     simp only at c0 c1 c2 c3 c4 hp
     obtain ⟨pa,pc,rfl,_,_,_⟩:=hp
     have hif:=HI2.out _ (List.mem_of_getElem? hx)
     simp only at hif
     obtain ⟨b1,hb1⟩:∃ b,Zdy fr (Zfl ns)=b:=⟨_,rfl⟩
     obtain ⟨b2,hb2⟩:∃ b,Zdy tt (Zfl ns)=b:=⟨_,rfl⟩
     have HE2:Hid (res=(b1&&(b2&&Zev (Zfl ns) (rs.drop (j+1))))):=by
      show _=_
      rw [← HRS.out,Zwb hx,← hb1,← hb2]
     have HL1:Hid (∀ W,MI W (w.heap.size+1) (Zfl ns)→(Instr.lookup 188 (.map (some (w.heap.size+1))) (.int .i64 fr) true).run Tryz.prog W=.ok (.tuple #[.agg #[],.bool b1]) W):=fun W h=>by rw [← hb1];exact Zop h fr hif.1
     have HL2:Hid (∀ W,MI W (w.heap.size+1) (Zfl ns)→(Instr.lookup 188 (.map (some (w.heap.size+1))) (.int .i64 tt) true).run Tryz.prog W=.ok (.tuple #[.agg #[],.bool b2]) W):=fun W h=>by rw [← hb2];exact Zop h tt hif.2
     clear hc hx hb1 hb2 hif
     go_upto_region 10 with fail
     generalize hW2:World.alloc _ _=W2
     have hr2:=Zl wr #[.int .i64 xi,.int .i64 fr,.int .i64 tt,.string ty,.slice pa xp.length pc] 49
     rw [hW2] at hr2
     have HR2:=Zb hr2
     have HB2:Hid (Below wr.heap.size wr W2):=by rw [← hW2];exact (Below.refl _ _).alloc (Nat.le_refl _) _
     have HJ2:=Zb (HJR.out.below HB2.out)
     have k1:=hr2.cell 1 rfl
     have l1:=HL1.out W2 HJ2.out.map
     clear hW2 hr2 c0 c1 c2 c3 c4
     go_upto_region 11 with fail
     generalize hW3:World.alloc _ _=W3
     have HB3:Hid (Below W2.heap.size W2 W3):=by rw [← hW3];exact (Below.refl _ _).alloc (Nat.le_refl _) _
     have HJ3:=Zb (HJ2.out.below HB3.out)
     have k2:=(HR2.out.below HB3.out HR2.out.lt).cell 2 rfl
     have l2:=HL2.out W3 HJ3.out.map
     clear hW3 k1 l1
     go_upto_region 12 with fail
     generalize hW4:World.alloc _ _=W4
     have HB4:Hid (Below W3.heap.size W3 W4):=by rw [← hW4];exact (Below.refl _ _).alloc (Nat.le_refl _) _
     have HJ4:=Zb (HJ3.out.below HB4.out)
     clear hW4 k2 l2
     cases b1 with
     | false =>
      have HF:Hid (res=false):=HE2.out
      go_wp2_with fail
      go_ret
      exact ⟨by rw [HF.out];rfl,HJ4.out.keep⟩
     | true =>
      cases b2 with
      | false =>
       have HF:Hid (res=false):=HE2.out
       go_wp2_with fail
       go_ret
       exact ⟨by rw [HF.out];rfl,HJ4.out.keep⟩
      | true =>
       have HN2:Hid (Zev (Zfl ns) (rs.drop (j+1))=res):=HE2.out.symm
       go_wp2_with fail
       go_roundw
       case rel=>exact ⟨j+1,by omega,by go_num,HJ4.out,HN2.out⟩
       case measure=>simp [intOf];omega
    ·have HF:Hid (res=true):=by
      show _=_
      rw [← HRS.out,List.drop_of_length_le (by have:=HM.out;omega)];rfl
     have hlt':¬ (j:Int)<m:=by omega
     go_wp2_with fail
     go_ret
     exact ⟨by rw [HF.out];rfl,HBW.out⟩
end
