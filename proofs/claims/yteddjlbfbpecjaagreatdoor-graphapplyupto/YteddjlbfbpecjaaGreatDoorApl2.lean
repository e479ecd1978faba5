/- The document's rows with one put. -/
import Derived.Test.YteddjlbfbpecjaaGreatDoorJoin27
namespace Go.Proofs.YteddjlbfbpecjaaGreatDoor
open Go.RowKit Go.Shelf
set_option maxHeartbeats 8000000
set_option maxRecDepth 100000
set_option linter.all false
attribute [local go_sem] Oper.semAt_some
theorem below_drewN (B:Nat) (w:World) (n:Nat):Below B w (w.drewN n):=⟨rfl,rfl,rfl,Nat.le_refl _,fun _ _=>rfl⟩
theorem Zg {P:Program} {w w':World} {ops:Array Oper} {rest:List Oper} {o:Oper} {a:Act} {Q:Exit→Act→World→Prop} (hgd:o.guard=none) (s x:Operand) (t:TypeId)
  (ho:o.op=.call { callee:=.builtin .append,args:=#[s,x],argTypes:=#[t,t] }) {v y v':Value} (hs:a.eval s=v) (hx:a.eval x=y) (hrun:(Builtin.append_ #[t,t] o.type #[v,y]).run P w=.ok v' w')
  (h:wpList P ops Q rest (a.put o.dst v') w'):wpList P ops Q (o::rest) a w:=by
 refine wpList_plain hgd fun K hK=>?_
 unfold Oper.wp execOp
 simp only [ho,resolve,invoke,builtin,Sem.run_bind,Sem.run_pure,Result.andThen_ok,List.map_toArray,List.map_cons,List.map_nil,hs,hx,hrun]
 exact hK _ _ h
theorem Tryz.info49  : (Tryz.prog.info? 49).map (fun i=>(i.zero,i.size,i.bytes))=some (some (.agg #[.int .i64 0,.int .i64 0,.int .i64 0,.string ⟨#[]⟩,.slice none 0 0]),5,64):=by kernel_rfl
def Zcf {α:Type} (key:α→Int) (n:α):List α→List α
 | []=>[n]
 | x::r=>if key x<key n then x::Zcf key n r else if key x=key n then n::r else n::x::r
def Zbc {α:Type} (key:α→Int) (id:Int) (l:List α):List α:=l.filter fun x=>key x != id
theorem Zf9 {α:Type} {l:List α} {j:Nat} {x:α} (h:l[j]?=some x):l.drop j=x::l.drop (j+1):=by
 obtain ⟨hj,rfl⟩:=List.getElem?_eq_some_iff.1 h
 exact List.drop_eq_getElem_cons hj
theorem Zjz {α:Type} {key:α→Int} {n:α}:∀ {l:List α} {x:α},x ∈ Zcf key n l→x=n∨x ∈ l
 | [],x,h=>by simp [Zcf] at h;exact .inl h
 | y::r,x,h=>by
  rw [Zcf] at h
  split at h
  ·rcases List.mem_cons.1 h with rfl | h
   ·exact .inr List.mem_cons_self
   ·exact (Zjz h).imp id (List.mem_cons_of_mem _)
  ·split at h
   ·rcases List.mem_cons.1 h with rfl | h
    ·exact .inl rfl
    ·exact .inr (List.mem_cons_of_mem _ h)
   ·rcases List.mem_cons.1 h with rfl | h
    ·exact .inl rfl
    ·exact .inr h
theorem Ze2 {α:Type} {key:α→Int} {n:α}:∀ (j:Nat) (l:List α),(∀ (q:Nat) (x:α),q<j→l[q]?=some x→key x<key n)→j≤l.length→Zcf key n l=l.take j++Zcf key n (l.drop j)
 | 0,l,_,_=>by simp
 | j+1,[],_,h=>by simp at h
 | j+1,x::r,h,hl=>by
  have h0:=h 0 x (by omega) rfl
  rw [Zcf,if_pos h0,Ze2 j r (fun q y hq hy=>h (q+1) y (by omega) (by simpa using hy)) (by simpa using hl)]
  rfl
def Zeg {α:Type} (k:Nat) (L:Value→α→Prop) (Q:Nat→Prop) (w:World) (v:Value) (xs:List α):Prop :=
 ∃ a c css,v=.slice a xs.length c∧xs.length≤c∧c≤9223372036854775807∧Css k L css xs∧(∀ c ∈ css,∀ v ∈ c,v.oneCell'=true)∧(xs=[]∨∃ bl off,a=some ⟨bl,off,none⟩∧bl<w.heap.size∧Q bl∧Zlx k L w bl off css xs)
theorem Zzf {α:Type} {e k base n:Nat} {L:Value→α→Prop} {w:World} {v:Value} {css:List (List Value)} {xs:List α} (h:w.ownsRow base e k v n css.flatten) (hc:Css k L css xs) (h1:∀ c ∈ css,∀ v ∈ c,v.oneCell'=true) (hn:n=xs.length):Zeg k L (fun bl=>base≤bl) w v xs:=by
 subst hn
 have h':=h
 obtain ⟨_,⟨g2,g3⟩ | ⟨g,cap,cur,g2,g3,g4,g5,g6,_⟩⟩:=h
 ·have:xs=[]:=List.eq_nil_of_length_eq_zero g3
  subst this
  exact ⟨none,0,css,g2,by simp,by omega,hc,h1,.inl rfl⟩
 ·subst g2
  refine ⟨_,cap,css,rfl,g5,by simp only [maxLen] at g6;omega,hc,h1,.inr ⟨g,0,rfl,(Array.getElem?_eq_some_iff.1 g4).1,g3,hc.1,fun i x cs hx hcs=>?_⟩⟩
  obtain ⟨cs',k1,k2,k3⟩:=hc.2 i x hx
  rw [hcs] at k1
  obtain rfl:=Option.some.inj k1
  exact ⟨k2,h1 cs (List.mem_of_getElem? hcs),fun q v hq=>by rw [Nat.zero_add];exact Zik h' hc.all hcs hq,k3⟩
theorem Zol {α:Type} {key:α→Int} {e k base:Nat} {L:Value→α→Prop} {w w3:World} {css:List (List Value)} {ns:List α} {n:α} {v3:Value} {j d m:Nat} {cs:List Value} (hc:Css k L css ns) (h1:∀ c ∈ css,∀ v ∈ c,v.oneCell'=true) (hcs:cs.length=k) (h2:∀ v ∈ cs,v.oneCell'=true) (hn:L (.agg cs.toArray) n) (hp:Zcf key n ns=(ns.take j++[n])++ns.drop d) (hm:m=(Zcf key n ns).length) (ho:w3.ownsRow base e k v3 m (((css.take j).flatten++cs)++(css.drop d).flatten)) (hb:Below w.heap.size w w3) (hB:w.heap.size≤base) :
  ∃ v',Ending.returned v3=.returned v'∧Zeg k L (fun bl=>w.heap.size≤bl) w3 v' (Zcf key n ns)∧Below w.heap.size w w3:=by
 have h3:Css k L [cs] [n]:=⟨rfl,fun i x hx=>by
  cases i with
  | zero=>obtain rfl:=Option.some.inj hx;exact ⟨cs,rfl,hcs,hn⟩
  | succ i=>simp at hx⟩
 have h4:Css k L ((css.take j++[cs])++css.drop d) (Zcf key n ns):=by rw [hp];exact ((hc.take j).app h3).app (hc.drop d)
 obtain ⟨a,c,es,e1,e2,e3,e4,e5,e6⟩:=Zzf (css:=(css.take j++[cs])++css.drop d) (by rw [List.flatten_append,List.flatten_append];simpa using ho) h4 (fun c hc'=>by
  simp only [List.mem_append,List.mem_cons,List.not_mem_nil,or_false] at hc'
  rcases hc' with (q | q) | q
  ·exact h1 c (List.mem_of_mem_take q)
  ·rw [q];exact h2
  ·exact h1 c (List.mem_of_mem_drop q)) hm
 exact ⟨v3,rfl,⟨a,c,es,e1,e2,e3,e4,e5,e6.imp id fun ⟨bl,off,q1,q2,q3,q4⟩=>⟨bl,off,q1,q2,by omega,q4⟩⟩,hb⟩
theorem Jev {B:Nat} {w:World} {v:Value} {ns:List Zp} (h:Zax B w v ns) (hB:B≤w.heap.size):Zeg 3 (Zv B w) (fun bl=>bl<B) w v ns:=by
 obtain ⟨a,c,e,h1,h2,h3⟩:=h
 rcases h3 with rfl | ⟨bl,off,rfl,hb,hc⟩
 ·exact ⟨a,c,[],e,h1,h2,Zb5,fun c hc=>by simp at hc,.inl rfl⟩
 ·obtain ⟨css,hcs⟩:=Ztn (At:=fun w=>Zdv B w) (L:=Zv B w) (fun off x hx=>Zqt hx) ns off hc
  exact ⟨_,c,css,e,h1,h2,hcs.css,fun c hc=>(hcs.all c hc).2,.inr ⟨bl,off,rfl,by omega,hb,hcs⟩⟩
theorem Zcg {ty base n m c:Nat} {v:Value} {xs news:List Value} {w:World} {a:Option Addr} (hown:w.ownsRow base 47 3 v n xs) (hl:news.length=m*3) (h1:∀ u ∈ news,u.oneCell'=true) (hsrc:m=0∨∃ bl off,a=some ⟨bl,off,none⟩∧∀ j u,news[j]?=some u→w.cell? ⟨bl,off+j,none⟩=some u) (hn:n+m≤1000000) (hb:base≤w.heap.size) :
  ∃ v' w',(Builtin.append_ #[22,22] ty #[v,.slice a m c]).run Tryz.prog w=.ok v' w'∧w'.ownsRow base 47 3 v' (n+m) (xs++news)∧Below base w w':=by
 obtain ⟨i0,hi,hz0,hz1,hz2⟩:=info_parts Tryz.info47
 exact Zje (z:=.agg #[.int .i64 0,.slice none 0 0,.slice none 0 0]) Tryz.underlying22 hi hz0 hz1 hz2 rfl (by decide) (by decide) hown hl h1 hsrc hn hb
theorem Zqa (ns:List Zp) (hne:ns≠[]) (n:Zp) (B:Nat) (w0:World) (Q:Nat→Prop) (v nv:Value) (w:World) (hl:Zeg 3 (Zv B w0) Q w v ns) (hn:Zv B w0 nv n) (hln:ns.length≤999990) :
  Calls Tryz.prog 62 #[v,nv] w fun e w'=>∃ v',e=.returned v'∧Zeg 3 (Zv B w0) (fun bl=>w.heap.size≤bl) w' v' (Zcf Zp.id n ns)∧Below w.heap.size w w':=by
 obtain ⟨a,c,css,rfl,h1,h2,hcss,hone,h3⟩:=hl
 obtain ⟨bl,off,rfl,hbl,_,hca⟩:=h3.resolve_left hne
 have HNL:=Zb hn
 obtain ⟨la,lc,pa,pc,rfl,hs1,hs2,hs3⟩:=hn
 have HCS:=Zb hcss
 have HON:=Zb hone
 have HCE:Hid (∀ W,Below w.heap.size w W→∀ i m,i+m≤ns.length→∀ q u,(((css.drop i).take m).flatten)[q]?=some u→W.cell? ⟨bl,off+i*3+q,none⟩=some u):=fun W hW i m hm q u hu=>(hW.cell (p:=⟨bl,off+i*3+q,none⟩) (by show bl<_;omega)).trans (hca.cells (by decide) i m hm q u hu)
 have HRW:Hid (∀ (W:World) (i:Nat) (x:Zp),Below w.heap.size w W→ns[i]?=some x→W.cell? ⟨bl,off+i*3,none⟩=some (.int .i64 x.id)):=fun W i x hW hx=>by
  refine (hW.cell (p:=⟨bl,off+i*3,none⟩) (by show bl<_;omega)).trans ?_
  obtain ⟨cs,hcs,_,hlx⟩:=hcss.2 i x hx
  have hcc:=(hca.2 i x cs hx hcs).2.2.1
  obtain ⟨la,lc,pa,pc,e,hs1,hs2,hs3⟩:=hlx
  have e2:=congrArg Array.toList (Value.agg.inj e)
  simp only at e2
  exact hcc 0 _ (by rw [e2];rfl)
 clear hcss hone h3 hca hne
 go_enter Tryz.func62,Tryz.ntmps62
 go_upto_region 1 with fail
 generalize hW1:World.alloc _ _=W1
 have hr:=Zl w #[.int .i64 n.id,.slice la n.labels.length lc,.slice pa n.props.length pc] 47
 rw [hW1] at hr
 have HB1:Hid (Below w.heap.size w W1):=by rw [← hW1];exact (Below.refl _ _).alloc (Nat.le_refl _) _
 obtain ⟨X,hX⟩:∃ X,w.heap.size=X:=⟨_,rfl⟩
 rw [hX] at hr ⊢
 have HR1:=Zb hr
 have HX:=Zb hX
 clear hW1 hr hX
 go_wp2_with fail
 go_loopw [5] (fun i wr=>∃ j:Nat,j≤ns.length∧i=.int .i64 j∧Below W1.heap.size W1 wr∧∀ (q:Nat) (x:Zp),q<j→ns[q]?=some x→Zp.id x<Zp.id n) (fun i _=>ns.length - (intOf i).toNat)
 case atStart=>exact ⟨0,Nat.zero_le _,rfl,Below.refl _ _,fun q x hq=>by omega⟩
 case round =>
  obtain ⟨j,hj,rfl,hbr,hall⟩:=hrel
  have HBR:=Zb hbr
  have HAL:=Zb hall
  have x0:wr.cell? ⟨X,0,none⟩=some (.int .i64 n.id):=(HR1.out.below HBR.out HR1.out.lt).cell 0 rfl
  clear hbr hall
  by_cases hlt:j<ns.length
  ·obtain ⟨x,hx⟩:∃ x,ns[j]?=some x:=⟨_,List.getElem?_eq_getElem hlt⟩
   have HXJ:=Zb hx
   have y0:=HRW.out wr j x (Za HB1.out HBR.out) hx
   clear hx
   by_cases hxn:x.id<n.id
   ·go_upto_region 2 with fail
    go_quiet (fail)
    generalize hWd:World.drewN _ _=Wd
    have HBd:Hid (Below W1.heap.size W1 Wd):=by rw [← hWd];exact Za HBR.out (below_drewN _ _ _)
    have HAL2:Hid (∀ (q:Nat) (y:Zp),q<j+1→ns[q]?=some y→Zp.id y<Zp.id n):=fun q y hq hy=>by
     by_cases e:q=j
     ·subst e;rw [HXJ.out] at hy;obtain rfl:=Option.some.inj hy;exact hxn
     ·exact HAL.out q y (by omega) hy
    clear hWd x0 y0 hxn
    go_wp2_with fail
    go_roundw
    case rel=>exact ⟨j+1,by omega,by go_num,HBd.out,HAL2.out⟩
    case measure=>simp [intOf];omega
   ·go_upto_region 2 with fail
    go_quiet (fail)
    generalize hWd:World.drewN _ _=Wq
    have HQ1:Hid (Below W1.heap.size W1 Wq):=by rw [← hWd];exact Za HBR.out (below_drewN _ _ _)
    have HQ:=Zb (Za HB1.out HQ1.out)
    have HLT:=Zb hxn
    clear hWd x0 y0 hxn HBR
    obtain ⟨v1,w1,r1,o1,hb1⟩:=Zcg (ty:=22) (c:=c) (a:=some ⟨bl,off,none⟩) (World.ownsRow_nil Wq Wq.heap.size 47 3) (m:=j) (news:=(css.take j).flatten) (by rw [Za1 _ (fun c hc=>HCS.out.all c (List.mem_of_mem_take hc)),List.length_take,HCS.out.1];congr 1;omega) (fun u hu=>by obtain ⟨c,h1,h2⟩:=List.mem_flatten.1 hu;exact HON.out c (List.mem_of_mem_take h1) u h2) (.inr ⟨bl,off,rfl,HCE.out Wq HQ.out 0 j (by omega)⟩) (by omega) (Nat.le_refl _)
    rw [Nat.zero_add,List.nil_append] at o1
    obtain ⟨ua,uc,rfl⟩:=Zw o1
    have HO1:=Zb o1
    have HB1':=Zb hb1
    have HRX:=Zb ((HR1.out.below (HQ1.out) HR1.out.lt).below hb1 (Nat.lt_of_lt_of_le HR1.out.lt HQ1.out.size))
    clear o1 hb1
    go_upto_region 5 with (at_builtin;refine Zg rfl _ _ 22 rfl rfl rfl r1 ?_)
    clear r1
    obtain ⟨W2,hW2⟩:∃ W2,w1.alloc (.cells #[.int .i64 n.id,.slice la n.labels.length lc,.slice pa n.props.length pc] 47)=W2:=⟨_,rfl⟩
    have hbA:Below w1.heap.size w1 W2:=by rw [← hW2];exact (Below.refl _ _).alloc (Nat.le_refl _) _
    have hrA:=Zl w1 #[.int .i64 n.id,.slice la n.labels.length lc,.slice pa n.props.length pc] 47
    rw [hW2] at hrA
    obtain ⟨v2,w2,r2,o2,hb2⟩:=Zcg (ty:=22) (c:=1) (a:=some ⟨w1.heap.size,0,none⟩) (w:=W2) (Zt HO1.out fun g _ hg=>hbA.block g hg) (m:=1) (news:=[.int .i64 n.id,.slice la n.labels.length lc,.slice pa n.props.length pc]) rfl (fun u hu=>by simp only [List.mem_cons,List.not_mem_nil,or_false] at hu;rcases hu with rfl | rfl | rfl<;>rfl) (.inr ⟨w1.heap.size,0,rfl,fun q u hu=>by rw [Nat.zero_add];exact hrA.cell q (by simpa using hu)⟩) (by omega) (by have:=HB1'.out.size;have:=hbA.size;omega)
    obtain ⟨ub,ud,rfl⟩:=Zw o2
    rw [← hW2] at r2
    have HO2:=Zb o2
    have HB2:Hid (Below Wq.heap.size Wq w2):=(HB1'.out.trans (hbA.mono HB1'.out.size)).trans hb2
    have z0:=HRX.out.cell 0 rfl
    have z1:=HRX.out.cell 1 rfl
    have z2:=HRX.out.cell 2 rfl
    clear o2 hb2 hbA hrA hW2
    go_upto_region 6 with (at_builtin;refine Zg rfl _ _ 22 rfl rfl rfl r2 ?_)
    clear z0 z1 z2 r2 HRX
    have z0:w2.cell? ⟨X,0,none⟩=some (.int .i64 n.id):=((HR1.out.below HQ1.out HR1.out.lt).below HB2.out (Nat.lt_of_lt_of_le HR1.out.lt HQ1.out.size)).cell 0 rfl
    by_cases heq:x.id=n.id
    ·have HEQ:=Zb heq
     clear heq
     have y2:=HRW.out w2 j x (Za HQ.out HB2.out) HXJ.out
     have hee:(x.id==n.id)=true:=by simpa using HEQ.out
     go_quiet (fail)
     generalize hWd:World.drewN _ _=Wd
     have HBd:Hid (Below w2.heap.size w2 Wd):=by rw [← hWd];exact below_drewN _ _ _
     clear hWd z0 y2 hee
     obtain ⟨v3,w3,r3,o3,hb3⟩:=Zcg (ty:=22) (c:=c - (j+1)) (a:=some ⟨bl,(if (j+1)=c then off else off+(j+1)*3),none⟩) (w:=Wd) (Zt HO2.out fun g _ hg=>HBd.out.block g hg) (m:=ns.length - (j+1)) (news:=(css.drop (j+1)).flatten) (by rw [Za1 _ (fun c hc=>HCS.out.all c (List.mem_of_mem_drop hc)),List.length_drop,HCS.out.1]) (fun u hu=>by obtain ⟨c,h1,h2⟩:=List.mem_flatten.1 hu;exact HON.out c (List.mem_of_mem_drop h1) u h2) (by
      by_cases hz:ns.length - (j+1)=0
      ·exact .inl hz
      ·rw [if_neg (by omega)]
       refine .inr ⟨bl,_,rfl,fun q u hu=>?_⟩
       have:=HCE.out Wd (Za (Za HQ.out HB2.out) HBd.out) (j+1) (ns.length - (j+1)) (by omega) q u
       rw [List.take_of_length_le (by rw [List.length_drop,HCS.out.1];omega)] at this
       exact this hu) (by omega) (by have:=HB2.out.size;have:=HBd.out.size;omega)
     have HO3:=Zb o3
     have HB3:Hid (Below w.heap.size w w3):=(Za (Za HQ.out HB2.out) HBd.out).trans (hb3.mono HQ.out.size)
     clear o3 hb3
     have HPU:Hid (Zcf Zp.id n ns=(ns.take j++[n])++ns.drop (j+1)):=by
      have:=Ze2 j ns HAL.out (by omega)
      rw [this,List.append_assoc]
      congr 1
      rw [Zf9 HXJ.out,Zcf,if_neg (by have:=HLT.out;simpa using this)]
      rw [if_pos HEQ.out];rfl
     have HLN:Hid (j+1+(ns.length - (j+1))=(Zcf Zp.id n ns).length):=by
      show _=_
      rw [HPU.out];simp<;>omega
     by_cases hdc:(j+1)=c
     ·subst hdc
      rw [if_pos rfl] at r3
      simp only [Nat.sub_self] at r3
      rw [show ns.length - (j+1)=0 by omega] at r3
      go_wp2_with (at_builtin;refine Zg rfl _ _ 22 rfl rfl rfl r3 ?_)
      go_ret
      exact Zol HCS.out HON.out rfl (by intro v hv;simp only [List.mem_cons,List.not_mem_nil,or_false] at hv;rcases hv with rfl | rfl | rfl<;>rfl) HNL.out HPU.out HLN.out HO3.out HB3.out HQ.out.size
     ·rw [if_neg hdc] at r3
      go_wp2_with (at_builtin;refine Zg rfl _ _ 22 rfl rfl rfl r3 ?_)
      go_ret
      exact Zol HCS.out HON.out rfl (by intro v hv;simp only [List.mem_cons,List.not_mem_nil,or_false] at hv;rcases hv with rfl | rfl | rfl<;>rfl) HNL.out HPU.out HLN.out HO3.out HB3.out HQ.out.size
    ·have HEQ:=Zb heq
     clear heq
     have y2:=HRW.out w2 j x (Za HQ.out HB2.out) HXJ.out
     have hee:(x.id==n.id)=false:=by simpa using HEQ.out
     go_quiet (fail)
     generalize hWd:World.drewN _ _=Wd
     have HBd:Hid (Below w2.heap.size w2 Wd):=by rw [← hWd];exact below_drewN _ _ _
     clear hWd z0 y2 hee
     obtain ⟨v3,w3,r3,o3,hb3⟩:=Zcg (ty:=22) (c:=c - j) (a:=some ⟨bl,(if j=c then off else off+j*3),none⟩) (w:=Wd) (Zt HO2.out fun g _ hg=>HBd.out.block g hg) (m:=ns.length - j) (news:=(css.drop j).flatten) (by rw [Za1 _ (fun c hc=>HCS.out.all c (List.mem_of_mem_drop hc)),List.length_drop,HCS.out.1]) (fun u hu=>by obtain ⟨c,h1,h2⟩:=List.mem_flatten.1 hu;exact HON.out c (List.mem_of_mem_drop h1) u h2) (by
      by_cases hz:ns.length - j=0
      ·exact .inl hz
      ·rw [if_neg (by omega)]
       refine .inr ⟨bl,_,rfl,fun q u hu=>?_⟩
       have:=HCE.out Wd (Za (Za HQ.out HB2.out) HBd.out) j (ns.length - j) (by omega) q u
       rw [List.take_of_length_le (by rw [List.length_drop,HCS.out.1];omega)] at this
       exact this hu) (by omega) (by have:=HB2.out.size;have:=HBd.out.size;omega)
     have HO3:=Zb o3
     have HB3:Hid (Below w.heap.size w w3):=(Za (Za HQ.out HB2.out) HBd.out).trans (hb3.mono HQ.out.size)
     clear o3 hb3
     have HPU:Hid (Zcf Zp.id n ns=(ns.take j++[n])++ns.drop j):=by
      have:=Ze2 j ns HAL.out (by omega)
      rw [this,List.append_assoc]
      congr 1
      rw [Zf9 HXJ.out,Zcf,if_neg (by have:=HLT.out;simpa using this)]
      rw [if_neg HEQ.out,← Zf9 HXJ.out];rfl
     have HLN:Hid (j+1+(ns.length - j)=(Zcf Zp.id n ns).length):=by
      show _=_
      rw [HPU.out];simp<;>omega
     have hdc:¬ j=c:=by omega
     rw [if_neg hdc] at r3
     go_wp2_with (at_builtin;refine Zg rfl _ _ 22 rfl rfl rfl r3 ?_)
     go_ret
     exact Zol HCS.out HON.out rfl (by intro v hv;simp only [List.mem_cons,List.not_mem_nil,or_false] at hv;rcases hv with rfl | rfl | rfl<;>rfl) HNL.out HPU.out HLN.out HO3.out HB3.out HQ.out.size
  ·obtain rfl:j=ns.length:=by omega
   go_upto_region 2 with fail
   go_quiet (fail)
   generalize hWd:World.drewN _ _=Wq
   have HQ1:Hid (Below W1.heap.size W1 Wq):=by rw [← hWd];exact Za HBR.out (below_drewN _ _ _)
   have HQ:=Zb (Za HB1.out HQ1.out)
   clear hWd x0 HBR
   obtain ⟨v1,w1,r1,o1,hb1⟩:=Zcg (ty:=22) (c:=c) (a:=some ⟨bl,off,none⟩) (World.ownsRow_nil Wq Wq.heap.size 47 3) (m:=ns.length) (news:=(css.take ns.length).flatten) (by rw [Za1 _ (fun c hc=>HCS.out.all c (List.mem_of_mem_take hc)),List.length_take,HCS.out.1];congr 1;omega) (fun u hu=>by obtain ⟨c,h1,h2⟩:=List.mem_flatten.1 hu;exact HON.out c (List.mem_of_mem_take h1) u h2) (.inr ⟨bl,off,rfl,HCE.out Wq HQ.out 0 ns.length (by omega)⟩) (by omega) (Nat.le_refl _)
   rw [Nat.zero_add,List.nil_append] at o1
   obtain ⟨ua,uc,rfl⟩:=Zw o1
   have HO1:=Zb o1
   have HB1':=Zb hb1
   have HRX:=Zb ((HR1.out.below (HQ1.out) HR1.out.lt).below hb1 (Nat.lt_of_lt_of_le HR1.out.lt HQ1.out.size))
   clear o1 hb1
   go_upto_region 5 with (at_builtin;refine Zg rfl _ _ 22 rfl rfl rfl r1 ?_)
   clear r1
   obtain ⟨W2,hW2⟩:∃ W2,w1.alloc (.cells #[.int .i64 n.id,.slice la n.labels.length lc,.slice pa n.props.length pc] 47)=W2:=⟨_,rfl⟩
   have hbA:Below w1.heap.size w1 W2:=by rw [← hW2];exact (Below.refl _ _).alloc (Nat.le_refl _) _
   have hrA:=Zl w1 #[.int .i64 n.id,.slice la n.labels.length lc,.slice pa n.props.length pc] 47
   rw [hW2] at hrA
   obtain ⟨v2,w2,r2,o2,hb2⟩:=Zcg (ty:=22) (c:=1) (a:=some ⟨w1.heap.size,0,none⟩) (w:=W2) (Zt HO1.out fun g _ hg=>hbA.block g hg) (m:=1) (news:=[.int .i64 n.id,.slice la n.labels.length lc,.slice pa n.props.length pc]) rfl (fun u hu=>by simp only [List.mem_cons,List.not_mem_nil,or_false] at hu;rcases hu with rfl | rfl | rfl<;>rfl) (.inr ⟨w1.heap.size,0,rfl,fun q u hu=>by rw [Nat.zero_add];exact hrA.cell q (by simpa using hu)⟩) (by omega) (by have:=HB1'.out.size;have:=hbA.size;omega)
   obtain ⟨ub,ud,rfl⟩:=Zw o2
   rw [← hW2] at r2
   have HO2:=Zb o2
   have HB2:Hid (Below Wq.heap.size Wq w2):=(HB1'.out.trans (hbA.mono HB1'.out.size)).trans hb2
   have z0:=HRX.out.cell 0 rfl
   have z1:=HRX.out.cell 1 rfl
   have z2:=HRX.out.cell 2 rfl
   clear o2 hb2 hbA hrA hW2
   go_upto_region 6 with (at_builtin;refine Zg rfl _ _ 22 rfl rfl rfl r2 ?_)
   clear z0 z1 z2 r2 HRX
   have z0:w2.cell? ⟨X,0,none⟩=some (.int .i64 n.id):=((HR1.out.below HQ1.out HR1.out.lt).below HB2.out (Nat.lt_of_lt_of_le HR1.out.lt HQ1.out.size)).cell 0 rfl
   go_quiet (fail)
   generalize hWd:World.drewN _ _=Wd
   have HBd:Hid (Below w2.heap.size w2 Wd):=by rw [← hWd];exact below_drewN _ _ _
   clear hWd z0 
   obtain ⟨v3,w3,r3,o3,hb3⟩:=Zcg (ty:=22) (c:=c - ns.length) (a:=some ⟨bl,(if ns.length=c then off else off+ns.length*3),none⟩) (w:=Wd) (Zt HO2.out fun g _ hg=>HBd.out.block g hg) (m:=ns.length - ns.length) (news:=(css.drop ns.length).flatten) (by rw [Za1 _ (fun c hc=>HCS.out.all c (List.mem_of_mem_drop hc)),List.length_drop,HCS.out.1]) (fun u hu=>by obtain ⟨c,h1,h2⟩:=List.mem_flatten.1 hu;exact HON.out c (List.mem_of_mem_drop h1) u h2) (by
    by_cases hz:ns.length - ns.length=0
    ·exact .inl hz
    ·rw [if_neg (by omega)]
     refine .inr ⟨bl,_,rfl,fun q u hu=>?_⟩
     have:=HCE.out Wd (Za (Za HQ.out HB2.out) HBd.out) ns.length (ns.length - ns.length) (by omega) q u
     rw [List.take_of_length_le (by rw [List.length_drop,HCS.out.1];omega)] at this
     exact this hu) (by omega) (by have:=HB2.out.size;have:=HBd.out.size;omega)
   have HO3:=Zb o3
   have HB3:Hid (Below w.heap.size w w3):=(Za (Za HQ.out HB2.out) HBd.out).trans (hb3.mono HQ.out.size)
   clear o3 hb3
   have HPU:Hid (Zcf Zp.id n ns=(ns.take ns.length++[n])++ns.drop ns.length):=by
    have:=Ze2 ns.length ns HAL.out (by omega)
    rw [this,List.append_assoc]
    congr 1
    rw [List.drop_length]
    rfl
   have HLN:Hid (ns.length+1+(ns.length - ns.length)=(Zcf Zp.id n ns).length):=by
    show _=_
    rw [HPU.out];simp<;>omega
   by_cases hdc:ns.length=c
   ·subst hdc
    rw [if_pos rfl] at r3
    simp only [Nat.sub_self] at r3
    go_wp2_with (at_builtin;refine Zg rfl _ _ 22 rfl rfl rfl r3 ?_)
    go_ret
    exact Zol HCS.out HON.out rfl (by intro v hv;simp only [List.mem_cons,List.not_mem_nil,or_false] at hv;rcases hv with rfl | rfl | rfl<;>rfl) HNL.out HPU.out HLN.out HO3.out HB3.out HQ.out.size
   ·rw [if_neg hdc] at r3
    simp only [Nat.sub_self] at r3
    go_wp2_with (at_builtin;refine Zg rfl _ _ 22 rfl rfl rfl r3 ?_)
    go_ret
    exact Zol HCS.out HON.out rfl (by intro v hv;simp only [List.mem_cons,List.not_mem_nil,or_false] at hv;rcases hv with rfl | rfl | rfl<;>rfl) HNL.out HPU.out HLN.out HO3.out HB3.out HQ.out.size
theorem Zrv (n:Zp) (a:Option Addr) (c:Nat) (hc:c≤9223372036854775807) (B:Nat) (w0:World) (nv:Value) (w:World) (hn:Zv B w0 nv n) :
  Calls Tryz.prog 62 #[.slice a 0 c,nv] w fun e w'=>∃ v',e=.returned v'∧Zeg 3 (Zv B w0) (fun bl=>w.heap.size≤bl) w' v' (Zcf Zp.id n [])∧Below w.heap.size w w':=by
 have HNL:=Zb hn
 obtain ⟨la,lc,pa,pc,rfl,hs1,hs2,hs3⟩:=hn
 go_enter Tryz.func62,Tryz.ntmps62
 go_upto_region 1 with fail
 generalize hW1:World.alloc _ _=W1
 have hr:=Zl w #[.int .i64 n.id,.slice la n.labels.length lc,.slice pa n.props.length pc] 47
 rw [hW1] at hr
 have HB1:Hid (Below w.heap.size w W1):=by rw [← hW1];exact (Below.refl _ _).alloc (Nat.le_refl _) _
 obtain ⟨X,hX⟩:∃ X,w.heap.size=X:=⟨_,rfl⟩
 rw [hX] at hr ⊢
 have HR1:=Zb hr
 have HX:=Zb hX
 clear hW1 hr hX
 go_wp2_with fail
 go_loopw [5] (fun i wr=>i=.int .i64 0∧wr=W1) (fun _ _=>0)
 case atStart=>exact ⟨rfl,rfl⟩
 case round =>
  obtain ⟨rfl,hwr⟩:=hrel
  rw [hwr]
  clear hwr
  go_upto_region 2 with fail
  go_quiet (fail)
  generalize hWd:World.drewN _ _=Wq
  have HQ1:Hid (Below W1.heap.size W1 Wq):=by rw [← hWd];exact below_drewN _ _ _
  clear hWd
  have HNO:Hid (∀ (ad:Option Addr) (cc base k0:Nat) (v:Value) (xs:List Value) (W:World),W.ownsRow base 47 3 v k0 xs→k0≤10→base≤W.heap.size→∃ v' w',(Builtin.append_ #[22,22] 22 #[v,.slice ad 0 cc]).run Tryz.prog W=.ok v' w'∧w'.ownsRow base 47 3 v' k0 xs∧Below base W w'):=fun ad cc base k0 v xs W h1 h2 h3=>by
   obtain ⟨v',w',q1,q2,q3⟩:=Zcg (ty:=22) (m:=0) (c:=cc) (a:=ad) (news:=[]) h1 (by simp) (by simp) (.inl rfl) (by omega) h3
   exact ⟨v',w',q1,by simpa using q2,q3⟩
  have HTL:Hid (∀ v1 w1,w1.ownsRow Wq.heap.size 47 3 v1 0 []→Below Wq.heap.size Wq w1→∃ ua uc v2 w2,v1=.slice ua 0 uc∧(Builtin.append_ #[22,22] 22 #[v1,.slice (some ⟨w1.heap.size,0,none⟩) 1 1]).run Tryz.prog (w1.alloc (.cells #[.int .i64 n.id,.slice la n.labels.length lc,.slice pa n.props.length pc] 47))=.ok v2 w2∧w2.ownsRow Wq.heap.size 47 3 v2 1 [.int .i64 n.id,.slice la n.labels.length lc,.slice pa n.props.length pc]∧Below Wq.heap.size Wq w2):=fun v1 w1 h1 h2=>by
   obtain ⟨ua,uc,e1⟩:=Zw h1
   have hbA:Below w1.heap.size w1 (w1.alloc (.cells #[.int .i64 n.id,.slice la n.labels.length lc,.slice pa n.props.length pc] 47)):=(Below.refl _ _).alloc (Nat.le_refl _) _
   have hrA:=Zl w1 #[.int .i64 n.id,.slice la n.labels.length lc,.slice pa n.props.length pc] 47
   obtain ⟨v2,w2,r2,o2,hb2⟩:=Zcg (ty:=22) (c:=1) (a:=some ⟨w1.heap.size,0,none⟩) (Zt h1 fun g _ hg=>hbA.block g hg) (m:=1) (news:=[.int .i64 n.id,.slice la n.labels.length lc,.slice pa n.props.length pc]) rfl (fun u hu=>by simp only [List.mem_cons,List.not_mem_nil,or_false] at hu;rcases hu with rfl | rfl | rfl<;>rfl) (.inr ⟨w1.heap.size,0,rfl,fun q u hu=>by rw [Nat.zero_add];exact hrA.cell q (by simpa using hu)⟩) (by omega) (by have:=h2.size;have:=hbA.size;omega)
   exact ⟨ua,uc,v2,w2,e1,r2,by simpa using o2,(h2.trans (hbA.mono h2.size)).trans hb2⟩
  cases a with
  | none =>
   obtain ⟨v1,w1,r1,o1,hb1⟩:=HNO.out (none) c Wq.heap.size 0 (.slice none 0 0) [] Wq (World.ownsRow_nil _ _ _ _) (by omega) (Nat.le_refl _)
   obtain ⟨ua,uc,v2,w2,rfl,r2,o2,hb2⟩:=HTL.out v1 w1 o1 hb1
   obtain ⟨ub,ud,rfl⟩:=Zw o2
   have HRX:=Zb ((HR1.out.below (HQ1.out) HR1.out.lt).below hb1 (Nat.lt_of_lt_of_le HR1.out.lt HQ1.out.size))
   go_upto_region 5 with (at_builtin;refine Zg rfl _ _ 22 rfl rfl rfl r1 ?_)
   have HB2:=Zb hb2
   have HO2:=Zb o2
   have z0:=HRX.out.cell 0 rfl
   have z1:=HRX.out.cell 1 rfl
   have z2:=HRX.out.cell 2 rfl
   clear r1 o1 hb1 o2 hb2
   go_upto_region 6 with (at_builtin;refine Zg rfl _ _ 22 rfl rfl rfl r2 ?_)
   clear z0 z1 z2 r2 HRX
   go_quiet (fail)
   generalize hWd:World.drewN _ _=Wd
   have HBd:Hid (Below w2.heap.size w2 Wd):=by rw [← hWd];exact below_drewN _ _ _
   clear hWd
   obtain ⟨v3,w3,r3,o3,hb3⟩:=HNO.out (none) c Wq.heap.size 1 _ _ Wd (Zt HO2.out fun g _ hg=>HBd.out.block g hg) (by omega) (by have:=HB2.out.size;have:=HBd.out.size;omega)
   have HO3:=Zb o3
   have HB3:Hid (Below w.heap.size w w3):=(Za (Za (Za HB1.out HQ1.out) HB2.out) HBd.out).trans (hb3.mono (Za HB1.out HQ1.out).size)
   clear o3 hb3
   go_wp2_with (at_builtin;refine Zg rfl _ _ 22 rfl rfl rfl r3 ?_)
   go_ret
   exact Zol (key:=Zp.id) (ns:=[]) (css:=[]) (j:=0) (d:=0) (m:=1) Zb5 (fun c hc=>by simp at hc) rfl (by intro v hv;simp only [List.mem_cons,List.not_mem_nil,or_false] at hv;rcases hv with rfl | rfl | rfl<;>rfl) HNL.out rfl rfl (by simpa using HO3.out) HB3.out (Za HB1.out HQ1.out).size
  | some ad =>
   obtain ⟨v1,w1,r1,o1,hb1⟩:=HNO.out (some ad) c Wq.heap.size 0 (.slice none 0 0) [] Wq (World.ownsRow_nil _ _ _ _) (by omega) (Nat.le_refl _)
   obtain ⟨ua,uc,v2,w2,rfl,r2,o2,hb2⟩:=HTL.out v1 w1 o1 hb1
   obtain ⟨ub,ud,rfl⟩:=Zw o2
   have HRX:=Zb ((HR1.out.below (HQ1.out) HR1.out.lt).below hb1 (Nat.lt_of_lt_of_le HR1.out.lt HQ1.out.size))
   go_upto_region 5 with (at_builtin;refine Zg rfl _ _ 22 rfl rfl rfl r1 ?_)
   have HB2:=Zb hb2
   have HO2:=Zb o2
   have z0:=HRX.out.cell 0 rfl
   have z1:=HRX.out.cell 1 rfl
   have z2:=HRX.out.cell 2 rfl
   clear r1 o1 hb1 o2 hb2
   go_upto_region 6 with (at_builtin;refine Zg rfl _ _ 22 rfl rfl rfl r2 ?_)
   clear z0 z1 z2 r2 HRX
   go_quiet (fail)
   generalize hWd:World.drewN _ _=Wd
   have HBd:Hid (Below w2.heap.size w2 Wd):=by rw [← hWd];exact below_drewN _ _ _
   clear hWd
   obtain ⟨v3,w3,r3,o3,hb3⟩:=HNO.out (some ad) c Wq.heap.size 1 _ _ Wd (Zt HO2.out fun g _ hg=>HBd.out.block g hg) (by omega) (by have:=HB2.out.size;have:=HBd.out.size;omega)
   have HO3:=Zb o3
   have HB3:Hid (Below w.heap.size w w3):=(Za (Za (Za HB1.out HQ1.out) HB2.out) HBd.out).trans (hb3.mono (Za HB1.out HQ1.out).size)
   clear o3 hb3
   go_wp2_with (at_builtin;refine Zg rfl _ _ 22 rfl rfl rfl r3 ?_)
   go_ret
   exact Zol (key:=Zp.id) (ns:=[]) (css:=[]) (j:=0) (d:=0) (m:=1) Zb5 (fun c hc=>by simp at hc) rfl (by intro v hv;simp only [List.mem_cons,List.not_mem_nil,or_false] at hv;rcases hv with rfl | rfl | rfl<;>rfl) HNL.out rfl rfl (by simpa using HO3.out) HB3.out (Za HB1.out HQ1.out).size
theorem Jew (ns:List Zp) (n:Zp) (B:Nat) (w0:World) (Q:Nat→Prop) (v nv:Value) (w:World) (hl:Zeg 3 (Zv B w0) Q w v ns) (hn:Zv B w0 nv n) (hln:ns.length≤999990) :
  Calls Tryz.prog 62 #[v,nv] w fun e w'=>∃ v',e=.returned v'∧Zeg 3 (Zv B w0) (fun bl=>w.heap.size≤bl) w' v' (Zcf Zp.id n ns)∧Below w.heap.size w w':=by
 by_cases h:ns=[]
 ·subst h
  obtain ⟨a,c,css,rfl,_,hc,_⟩:=hl
  exact Zrv n a c hc B w0 nv w hn
 ·exact Zqa ns h n B w0 Q v nv w hl hn hln
theorem Jex {B:Nat} {w:World} {v:Value} {ns:List Jj} (h:Zbe B w v ns) (hB:B≤w.heap.size):Zeg 5 (Jc B w) (fun bl=>bl<B) w v ns:=by
 obtain ⟨a,c,e,h1,h2,h3⟩:=h
 rcases h3 with rfl | ⟨bl,off,rfl,hb,hc⟩
 ·exact ⟨a,c,[],e,h1,h2,Zb5,fun c hc=>by simp at hc,.inl rfl⟩
 ·obtain ⟨css,hcs⟩:=Ztn (At:=fun w=>Zg2 B w) (L:=Jc B w) (fun off x hx=>Ztm hx) ns off hc
  exact ⟨_,c,css,e,h1,h2,hcs.css,fun c hc=>(hcs.all c hc).2,.inr ⟨bl,off,rfl,by omega,hb,hcs⟩⟩
theorem Zch {ty base n m c:Nat} {v:Value} {xs news:List Value} {w:World} {a:Option Addr} (hown:w.ownsRow base 49 5 v n xs) (hl:news.length=m*5) (h1:∀ u ∈ news,u.oneCell'=true) (hsrc:m=0∨∃ bl off,a=some ⟨bl,off,none⟩∧∀ j u,news[j]?=some u→w.cell? ⟨bl,off+j,none⟩=some u) (hn:n+m≤1000000) (hb:base≤w.heap.size) :
  ∃ v' w',(Builtin.append_ #[23,23] ty #[v,.slice a m c]).run Tryz.prog w=.ok v' w'∧w'.ownsRow base 49 5 v' (n+m) (xs++news)∧Below base w w':=by
 obtain ⟨i0,hi,hz0,hz1,hz2⟩:=info_parts Tryz.info49
 exact Zje (z:=.agg #[.int .i64 0,.int .i64 0,.int .i64 0,.string ⟨#[]⟩,.slice none 0 0]) Tryz.underlying23 hi hz0 hz1 hz2 rfl (by decide) (by decide) hown hl h1 hsrc hn hb
theorem Zqb (ns:List Jj) (hne:ns≠[]) (n:Jj) (B:Nat) (w0:World) (Q:Nat→Prop) (v nv:Value) (w:World) (hl:Zeg 5 (Jc B w0) Q w v ns) (hn:Jc B w0 nv n) (hln:ns.length≤999990) :
  Calls Tryz.prog 63 #[v,nv] w fun e w'=>∃ v',e=.returned v'∧Zeg 5 (Jc B w0) (fun bl=>w.heap.size≤bl) w' v' (Zcf Jj.id n ns)∧Below w.heap.size w w':=by
 obtain ⟨a,c,css,rfl,h1,h2,hcss,hone,h3⟩:=hl
 obtain ⟨bl,off,rfl,hbl,_,hca⟩:=h3.resolve_left hne
 have HNL:=Zb hn
 obtain ⟨pa,pc,rfl,hs3⟩:=hn
 have HCS:=Zb hcss
 have HON:=Zb hone
 have HCE:Hid (∀ W,Below w.heap.size w W→∀ i m,i+m≤ns.length→∀ q u,(((css.drop i).take m).flatten)[q]?=some u→W.cell? ⟨bl,off+i*5+q,none⟩=some u):=fun W hW i m hm q u hu=>(hW.cell (p:=⟨bl,off+i*5+q,none⟩) (by show bl<_;omega)).trans (hca.cells (by decide) i m hm q u hu)
 have HRW:Hid (∀ (W:World) (i:Nat) (x:Jj),Below w.heap.size w W→ns[i]?=some x→W.cell? ⟨bl,off+i*5,none⟩=some (.int .i64 x.id)):=fun W i x hW hx=>by
  refine (hW.cell (p:=⟨bl,off+i*5,none⟩) (by show bl<_;omega)).trans ?_
  obtain ⟨cs,hcs,_,hlx⟩:=hcss.2 i x hx
  have hcc:=(hca.2 i x cs hx hcs).2.2.1
  obtain ⟨pa,pc,e,hs3⟩:=hlx
  have e2:=congrArg Array.toList (Value.agg.inj e)
  simp only at e2
  exact hcc 0 _ (by rw [e2];rfl)
 clear hcss hone h3 hca hne
 go_enter Tryz.func63,Tryz.ntmps63
 go_upto_region 1 with fail
 generalize hW1:World.alloc _ _=W1
 have hr:=Zl w #[.int .i64 n.id,.int .i64 n.fr,.int .i64 n.tt,.string n.type,.slice pa n.props.length pc] 49
 rw [hW1] at hr
 have HB1:Hid (Below w.heap.size w W1):=by rw [← hW1];exact (Below.refl _ _).alloc (Nat.le_refl _) _
 obtain ⟨X,hX⟩:∃ X,w.heap.size=X:=⟨_,rfl⟩
 rw [hX] at hr ⊢
 have HR1:=Zb hr
 have HX:=Zb hX
 clear hW1 hr hX
 go_wp2_with fail
 go_loopw [5] (fun i wr=>∃ j:Nat,j≤ns.length∧i=.int .i64 j∧Below W1.heap.size W1 wr∧∀ (q:Nat) (x:Jj),q<j→ns[q]?=some x→Jj.id x<Jj.id n) (fun i _=>ns.length - (intOf i).toNat)
 case atStart=>exact ⟨0,Nat.zero_le _,rfl,Below.refl _ _,fun q x hq=>by omega⟩
 case round =>
  obtain ⟨j,hj,rfl,hbr,hall⟩:=hrel
  have HBR:=Zb hbr
  have HAL:=Zb hall
  have x0:wr.cell? ⟨X,0,none⟩=some (.int .i64 n.id):=(HR1.out.below HBR.out HR1.out.lt).cell 0 rfl
  clear hbr hall
  by_cases hlt:j<ns.length
  ·obtain ⟨x,hx⟩:∃ x,ns[j]?=some x:=⟨_,List.getElem?_eq_getElem hlt⟩
   have HXJ:=Zb hx
   have y0:=HRW.out wr j x (Za HB1.out HBR.out) hx
   clear hx
   by_cases hxn:x.id<n.id
   ·go_upto_region 2 with fail
    go_quiet (fail)
    generalize hWd:World.drewN _ _=Wd
    have HBd:Hid (Below W1.heap.size W1 Wd):=by rw [← hWd];exact Za HBR.out (below_drewN _ _ _)
    have HAL2:Hid (∀ (q:Nat) (y:Jj),q<j+1→ns[q]?=some y→Jj.id y<Jj.id n):=fun q y hq hy=>by
     by_cases e:q=j
     ·subst e;rw [HXJ.out] at hy;obtain rfl:=Option.some.inj hy;exact hxn
     ·exact HAL.out q y (by omega) hy
    clear hWd x0 y0 hxn
    go_wp2_with fail
    go_roundw
    case rel=>exact ⟨j+1,by omega,by go_num,HBd.out,HAL2.out⟩
    case measure=>simp [intOf];omega
   ·go_upto_region 2 with fail
    go_quiet (fail)
    generalize hWd:World.drewN _ _=Wq
    have HQ1:Hid (Below W1.heap.size W1 Wq):=by rw [← hWd];exact Za HBR.out (below_drewN _ _ _)
    have HQ:=Zb (Za HB1.out HQ1.out)
    have HLT:=Zb hxn
    clear hWd x0 y0 hxn HBR
    obtain ⟨v1,w1,r1,o1,hb1⟩:=Zch (ty:=23) (c:=c) (a:=some ⟨bl,off,none⟩) (World.ownsRow_nil Wq Wq.heap.size 49 5) (m:=j) (news:=(css.take j).flatten) (by rw [Za1 _ (fun c hc=>HCS.out.all c (List.mem_of_mem_take hc)),List.length_take,HCS.out.1];congr 1;omega) (fun u hu=>by obtain ⟨c,h1,h2⟩:=List.mem_flatten.1 hu;exact HON.out c (List.mem_of_mem_take h1) u h2) (.inr ⟨bl,off,rfl,HCE.out Wq HQ.out 0 j (by omega)⟩) (by omega) (Nat.le_refl _)
    rw [Nat.zero_add,List.nil_append] at o1
    obtain ⟨ua,uc,rfl⟩:=Zw o1
    have HO1:=Zb o1
    have HB1':=Zb hb1
    have HRX:=Zb ((HR1.out.below (HQ1.out) HR1.out.lt).below hb1 (Nat.lt_of_lt_of_le HR1.out.lt HQ1.out.size))
    clear o1 hb1
    go_upto_region 5 with (at_builtin;refine Zg rfl _ _ 23 rfl rfl rfl r1 ?_)
    clear r1
    obtain ⟨W2,hW2⟩:∃ W2,w1.alloc (.cells #[.int .i64 n.id,.int .i64 n.fr,.int .i64 n.tt,.string n.type,.slice pa n.props.length pc] 49)=W2:=⟨_,rfl⟩
    have hbA:Below w1.heap.size w1 W2:=by rw [← hW2];exact (Below.refl _ _).alloc (Nat.le_refl _) _
    have hrA:=Zl w1 #[.int .i64 n.id,.int .i64 n.fr,.int .i64 n.tt,.string n.type,.slice pa n.props.length pc] 49
    rw [hW2] at hrA
    obtain ⟨v2,w2,r2,o2,hb2⟩:=Zch (ty:=23) (c:=1) (a:=some ⟨w1.heap.size,0,none⟩) (w:=W2) (Zt HO1.out fun g _ hg=>hbA.block g hg) (m:=1) (news:=[.int .i64 n.id,.int .i64 n.fr,.int .i64 n.tt,.string n.type,.slice pa n.props.length pc]) rfl (fun u hu=>by simp only [List.mem_cons,List.not_mem_nil,or_false] at hu;rcases hu with rfl | rfl | rfl | rfl | rfl<;>rfl) (.inr ⟨w1.heap.size,0,rfl,fun q u hu=>by rw [Nat.zero_add];exact hrA.cell q (by simpa using hu)⟩) (by omega) (by have:=HB1'.out.size;have:=hbA.size;omega)
    obtain ⟨ub,ud,rfl⟩:=Zw o2
    rw [← hW2] at r2
    have HO2:=Zb o2
    have HB2:Hid (Below Wq.heap.size Wq w2):=(HB1'.out.trans (hbA.mono HB1'.out.size)).trans hb2
    have z0:=HRX.out.cell 0 rfl
    have z1:=HRX.out.cell 1 rfl
    have z2:=HRX.out.cell 2 rfl
    have z3:=HRX.out.cell 3 rfl
    have z4:=HRX.out.cell 4 rfl
    clear o2 hb2 hbA hrA hW2
    go_upto_region 6 with (at_builtin;refine Zg rfl _ _ 23 rfl rfl rfl r2 ?_)
    clear z0 z1 z2 z3 z4 r2 HRX
    have z0:w2.cell? ⟨X,0,none⟩=some (.int .i64 n.id):=((HR1.out.below HQ1.out HR1.out.lt).below HB2.out (Nat.lt_of_lt_of_le HR1.out.lt HQ1.out.size)).cell 0 rfl
    by_cases heq:x.id=n.id
    ·have HEQ:=Zb heq
     clear heq
     have y2:=HRW.out w2 j x (Za HQ.out HB2.out) HXJ.out
     have hee:(x.id==n.id)=true:=by simpa using HEQ.out
     go_quiet (fail)
     generalize hWd:World.drewN _ _=Wd
     have HBd:Hid (Below w2.heap.size w2 Wd):=by rw [← hWd];exact below_drewN _ _ _
     clear hWd z0 y2 hee
     obtain ⟨v3,w3,r3,o3,hb3⟩:=Zch (ty:=23) (c:=c - (j+1)) (a:=some ⟨bl,(if (j+1)=c then off else off+(j+1)*5),none⟩) (w:=Wd) (Zt HO2.out fun g _ hg=>HBd.out.block g hg) (m:=ns.length - (j+1)) (news:=(css.drop (j+1)).flatten) (by rw [Za1 _ (fun c hc=>HCS.out.all c (List.mem_of_mem_drop hc)),List.length_drop,HCS.out.1]) (fun u hu=>by obtain ⟨c,h1,h2⟩:=List.mem_flatten.1 hu;exact HON.out c (List.mem_of_mem_drop h1) u h2) (by
      by_cases hz:ns.length - (j+1)=0
      ·exact .inl hz
      ·rw [if_neg (by omega)]
       refine .inr ⟨bl,_,rfl,fun q u hu=>?_⟩
       have:=HCE.out Wd (Za (Za HQ.out HB2.out) HBd.out) (j+1) (ns.length - (j+1)) (by omega) q u
       rw [List.take_of_length_le (by rw [List.length_drop,HCS.out.1];omega)] at this
       exact this hu) (by omega) (by have:=HB2.out.size;have:=HBd.out.size;omega)
     have HO3:=Zb o3
     have HB3:Hid (Below w.heap.size w w3):=(Za (Za HQ.out HB2.out) HBd.out).trans (hb3.mono HQ.out.size)
     clear o3 hb3
     have HPU:Hid (Zcf Jj.id n ns=(ns.take j++[n])++ns.drop (j+1)):=by
      have:=Ze2 j ns HAL.out (by omega)
      rw [this,List.append_assoc]
      congr 1
      rw [Zf9 HXJ.out,Zcf,if_neg (by have:=HLT.out;simpa using this)]
      rw [if_pos HEQ.out];rfl
     have HLN:Hid (j+1+(ns.length - (j+1))=(Zcf Jj.id n ns).length):=by
      show _=_
      rw [HPU.out];simp<;>omega
     by_cases hdc:(j+1)=c
     ·subst hdc
      rw [if_pos rfl] at r3
      simp only [Nat.sub_self] at r3
      rw [show ns.length - (j+1)=0 by omega] at r3
      go_wp2_with (at_builtin;refine Zg rfl _ _ 23 rfl rfl rfl r3 ?_)
      go_ret
      exact Zol HCS.out HON.out rfl (by intro v hv;simp only [List.mem_cons,List.not_mem_nil,or_false] at hv;rcases hv with rfl | rfl | rfl | rfl | rfl<;>rfl) HNL.out HPU.out HLN.out HO3.out HB3.out HQ.out.size
     ·rw [if_neg hdc] at r3
      go_wp2_with (at_builtin;refine Zg rfl _ _ 23 rfl rfl rfl r3 ?_)
      go_ret
      exact Zol HCS.out HON.out rfl (by intro v hv;simp only [List.mem_cons,List.not_mem_nil,or_false] at hv;rcases hv with rfl | rfl | rfl | rfl | rfl<;>rfl) HNL.out HPU.out HLN.out HO3.out HB3.out HQ.out.size
    ·have HEQ:=Zb heq
     clear heq
     have y2:=HRW.out w2 j x (Za HQ.out HB2.out) HXJ.out
     have hee:(x.id==n.id)=false:=by simpa using HEQ.out
     go_quiet (fail)
     generalize hWd:World.drewN _ _=Wd
     have HBd:Hid (Below w2.heap.size w2 Wd):=by rw [← hWd];exact below_drewN _ _ _
     clear hWd z0 y2 hee
     obtain ⟨v3,w3,r3,o3,hb3⟩:=Zch (ty:=23) (c:=c - j) (a:=some ⟨bl,(if j=c then off else off+j*5),none⟩) (w:=Wd) (Zt HO2.out fun g _ hg=>HBd.out.block g hg) (m:=ns.length - j) (news:=(css.drop j).flatten) (by rw [Za1 _ (fun c hc=>HCS.out.all c (List.mem_of_mem_drop hc)),List.length_drop,HCS.out.1]) (fun u hu=>by obtain ⟨c,h1,h2⟩:=List.mem_flatten.1 hu;exact HON.out c (List.mem_of_mem_drop h1) u h2) (by
      by_cases hz:ns.length - j=0
      ·exact .inl hz
      ·rw [if_neg (by omega)]
       refine .inr ⟨bl,_,rfl,fun q u hu=>?_⟩
       have:=HCE.out Wd (Za (Za HQ.out HB2.out) HBd.out) j (ns.length - j) (by omega) q u
       rw [List.take_of_length_le (by rw [List.length_drop,HCS.out.1];omega)] at this
       exact this hu) (by omega) (by have:=HB2.out.size;have:=HBd.out.size;omega)
     have HO3:=Zb o3
     have HB3:Hid (Below w.heap.size w w3):=(Za (Za HQ.out HB2.out) HBd.out).trans (hb3.mono HQ.out.size)
     clear o3 hb3
     have HPU:Hid (Zcf Jj.id n ns=(ns.take j++[n])++ns.drop j):=by
      have:=Ze2 j ns HAL.out (by omega)
      rw [this,List.append_assoc]
      congr 1
      rw [Zf9 HXJ.out,Zcf,if_neg (by have:=HLT.out;simpa using this)]
      rw [if_neg HEQ.out,← Zf9 HXJ.out];rfl
     have HLN:Hid (j+1+(ns.length - j)=(Zcf Jj.id n ns).length):=by
      show _=_
      rw [HPU.out];simp<;>omega
     have hdc:¬ j=c:=by omega
     rw [if_neg hdc] at r3
     go_wp2_with (at_builtin;refine Zg rfl _ _ 23 rfl rfl rfl r3 ?_)
     go_ret
     exact Zol HCS.out HON.out rfl (by intro v hv;simp only [List.mem_cons,List.not_mem_nil,or_false] at hv;rcases hv with rfl | rfl | rfl | rfl | rfl<;>rfl) HNL.out HPU.out HLN.out HO3.out HB3.out HQ.out.size
  ·obtain rfl:j=ns.length:=by omega
   go_upto_region 2 with fail
   go_quiet (fail)
   generalize hWd:World.drewN _ _=Wq
   have HQ1:Hid (Below W1.heap.size W1 Wq):=by rw [← hWd];exact Za HBR.out (below_drewN _ _ _)
   have HQ:=Zb (Za HB1.out HQ1.out)
   clear hWd x0 HBR
   obtain ⟨v1,w1,r1,o1,hb1⟩:=Zch (ty:=23) (c:=c) (a:=some ⟨bl,off,none⟩) (World.ownsRow_nil Wq Wq.heap.size 49 5) (m:=ns.length) (news:=(css.take ns.length).flatten) (by rw [Za1 _ (fun c hc=>HCS.out.all c (List.mem_of_mem_take hc)),List.length_take,HCS.out.1];congr 1;omega) (fun u hu=>by obtain ⟨c,h1,h2⟩:=List.mem_flatten.1 hu;exact HON.out c (List.mem_of_mem_take h1) u h2) (.inr ⟨bl,off,rfl,HCE.out Wq HQ.out 0 ns.length (by omega)⟩) (by omega) (Nat.le_refl _)
   rw [Nat.zero_add,List.nil_append] at o1
   obtain ⟨ua,uc,rfl⟩:=Zw o1
   have HO1:=Zb o1
   have HB1':=Zb hb1
   have HRX:=Zb ((HR1.out.below (HQ1.out) HR1.out.lt).below hb1 (Nat.lt_of_lt_of_le HR1.out.lt HQ1.out.size))
   clear o1 hb1
   go_upto_region 5 with (at_builtin;refine Zg rfl _ _ 23 rfl rfl rfl r1 ?_)
   clear r1
   obtain ⟨W2,hW2⟩:∃ W2,w1.alloc (.cells #[.int .i64 n.id,.int .i64 n.fr,.int .i64 n.tt,.string n.type,.slice pa n.props.length pc] 49)=W2:=⟨_,rfl⟩
   have hbA:Below w1.heap.size w1 W2:=by rw [← hW2];exact (Below.refl _ _).alloc (Nat.le_refl _) _
   have hrA:=Zl w1 #[.int .i64 n.id,.int .i64 n.fr,.int .i64 n.tt,.string n.type,.slice pa n.props.length pc] 49
   rw [hW2] at hrA
   obtain ⟨v2,w2,r2,o2,hb2⟩:=Zch (ty:=23) (c:=1) (a:=some ⟨w1.heap.size,0,none⟩) (w:=W2) (Zt HO1.out fun g _ hg=>hbA.block g hg) (m:=1) (news:=[.int .i64 n.id,.int .i64 n.fr,.int .i64 n.tt,.string n.type,.slice pa n.props.length pc]) rfl (fun u hu=>by simp only [List.mem_cons,List.not_mem_nil,or_false] at hu;rcases hu with rfl | rfl | rfl | rfl | rfl<;>rfl) (.inr ⟨w1.heap.size,0,rfl,fun q u hu=>by rw [Nat.zero_add];exact hrA.cell q (by simpa using hu)⟩) (by omega) (by have:=HB1'.out.size;have:=hbA.size;omega)
   obtain ⟨ub,ud,rfl⟩:=Zw o2
   rw [← hW2] at r2
   have HO2:=Zb o2
   have HB2:Hid (Below Wq.heap.size Wq w2):=(HB1'.out.trans (hbA.mono HB1'.out.size)).trans hb2
   have z0:=HRX.out.cell 0 rfl
   have z1:=HRX.out.cell 1 rfl
   have z2:=HRX.out.cell 2 rfl
   have z3:=HRX.out.cell 3 rfl
   have z4:=HRX.out.cell 4 rfl
   clear o2 hb2 hbA hrA hW2
   go_upto_region 6 with (at_builtin;refine Zg rfl _ _ 23 rfl rfl rfl r2 ?_)
   clear z0 z1 z2 z3 z4 r2 HRX
   have z0:w2.cell? ⟨X,0,none⟩=some (.int .i64 n.id):=((HR1.out.below HQ1.out HR1.out.lt).below HB2.out (Nat.lt_of_lt_of_le HR1.out.lt HQ1.out.size)).cell 0 rfl
   go_quiet (fail)
   generalize hWd:World.drewN _ _=Wd
   have HBd:Hid (Below w2.heap.size w2 Wd):=by rw [← hWd];exact below_drewN _ _ _
   clear hWd z0 
   obtain ⟨v3,w3,r3,o3,hb3⟩:=Zch (ty:=23) (c:=c - ns.length) (a:=some ⟨bl,(if ns.length=c then off else off+ns.length*5),none⟩) (w:=Wd) (Zt HO2.out fun g _ hg=>HBd.out.block g hg) (m:=ns.length - ns.length) (news:=(css.drop ns.length).flatten) (by rw [Za1 _ (fun c hc=>HCS.out.all c (List.mem_of_mem_drop hc)),List.length_drop,HCS.out.1]) (fun u hu=>by obtain ⟨c,h1,h2⟩:=List.mem_flatten.1 hu;exact HON.out c (List.mem_of_mem_drop h1) u h2) (by
    by_cases hz:ns.length - ns.length=0
    ·exact .inl hz
    ·rw [if_neg (by omega)]
     refine .inr ⟨bl,_,rfl,fun q u hu=>?_⟩
     have:=HCE.out Wd (Za (Za HQ.out HB2.out) HBd.out) ns.length (ns.length - ns.length) (by omega) q u
     rw [List.take_of_length_le (by rw [List.length_drop,HCS.out.1];omega)] at this
     exact this hu) (by omega) (by have:=HB2.out.size;have:=HBd.out.size;omega)
   have HO3:=Zb o3
   have HB3:Hid (Below w.heap.size w w3):=(Za (Za HQ.out HB2.out) HBd.out).trans (hb3.mono HQ.out.size)
   clear o3 hb3
   have HPU:Hid (Zcf Jj.id n ns=(ns.take ns.length++[n])++ns.drop ns.length):=by
    have:=Ze2 ns.length ns HAL.out (by omega)
    rw [this,List.append_assoc]
    congr 1
    rw [List.drop_length]
    rfl
   have HLN:Hid (ns.length+1+(ns.length - ns.length)=(Zcf Jj.id n ns).length):=by
    show _=_
    rw [HPU.out];simp<;>omega
   by_cases hdc:ns.length=c
   ·subst hdc
    rw [if_pos rfl] at r3
    simp only [Nat.sub_self] at r3
    go_wp2_with (at_builtin;refine Zg rfl _ _ 23 rfl rfl rfl r3 ?_)
    go_ret
    exact Zol HCS.out HON.out rfl (by intro v hv;simp only [List.mem_cons,List.not_mem_nil,or_false] at hv;rcases hv with rfl | rfl | rfl | rfl | rfl<;>rfl) HNL.out HPU.out HLN.out HO3.out HB3.out HQ.out.size
   ·rw [if_neg hdc] at r3
    simp only [Nat.sub_self] at r3
    go_wp2_with (at_builtin;refine Zg rfl _ _ 23 rfl rfl rfl r3 ?_)
    go_ret
    exact Zol HCS.out HON.out rfl (by intro v hv;simp only [List.mem_cons,List.not_mem_nil,or_false] at hv;rcases hv with rfl | rfl | rfl | rfl | rfl<;>rfl) HNL.out HPU.out HLN.out HO3.out HB3.out HQ.out.size
theorem Zrw (n:Jj) (a:Option Addr) (c:Nat) (hc:c≤9223372036854775807) (B:Nat) (w0:World) (nv:Value) (w:World) (hn:Jc B w0 nv n) :
  Calls Tryz.prog 63 #[.slice a 0 c,nv] w fun e w'=>∃ v',e=.returned v'∧Zeg 5 (Jc B w0) (fun bl=>w.heap.size≤bl) w' v' (Zcf Jj.id n [])∧Below w.heap.size w w':=by
 have HNL:=Zb hn
 obtain ⟨pa,pc,rfl,hs3⟩:=hn
 go_enter Tryz.func63,Tryz.ntmps63
 go_upto_region 1 with fail
 generalize hW1:World.alloc _ _=W1
 have hr:=Zl w #[.int .i64 n.id,.int .i64 n.fr,.int .i64 n.tt,.string n.type,.slice pa n.props.length pc] 49
 rw [hW1] at hr
 have HB1:Hid (Below w.heap.size w W1):=by rw [← hW1];exact (Below.refl _ _).alloc (Nat.le_refl _) _
 obtain ⟨X,hX⟩:∃ X,w.heap.size=X:=⟨_,rfl⟩
 rw [hX] at hr ⊢
 have HR1:=Zb hr
 have HX:=Zb hX
 clear hW1 hr hX
 go_wp2_with fail
 go_loopw [5] (fun i wr=>i=.int .i64 0∧wr=W1) (fun _ _=>0)
 case atStart=>exact ⟨rfl,rfl⟩
 case round =>
  obtain ⟨rfl,hwr⟩:=hrel
  rw [hwr]
  clear hwr
  go_upto_region 2 with fail
  go_quiet (fail)
  generalize hWd:World.drewN _ _=Wq
  have HQ1:Hid (Below W1.heap.size W1 Wq):=by rw [← hWd];exact below_drewN _ _ _
  clear hWd
  have HNO:Hid (∀ (ad:Option Addr) (cc base k0:Nat) (v:Value) (xs:List Value) (W:World),W.ownsRow base 49 5 v k0 xs→k0≤10→base≤W.heap.size→∃ v' w',(Builtin.append_ #[23,23] 23 #[v,.slice ad 0 cc]).run Tryz.prog W=.ok v' w'∧w'.ownsRow base 49 5 v' k0 xs∧Below base W w'):=fun ad cc base k0 v xs W h1 h2 h3=>by
   obtain ⟨v',w',q1,q2,q3⟩:=Zch (ty:=23) (m:=0) (c:=cc) (a:=ad) (news:=[]) h1 (by simp) (by simp) (.inl rfl) (by omega) h3
   exact ⟨v',w',q1,by simpa using q2,q3⟩
  have HTL:Hid (∀ v1 w1,w1.ownsRow Wq.heap.size 49 5 v1 0 []→Below Wq.heap.size Wq w1→∃ ua uc v2 w2,v1=.slice ua 0 uc∧(Builtin.append_ #[23,23] 23 #[v1,.slice (some ⟨w1.heap.size,0,none⟩) 1 1]).run Tryz.prog (w1.alloc (.cells #[.int .i64 n.id,.int .i64 n.fr,.int .i64 n.tt,.string n.type,.slice pa n.props.length pc] 49))=.ok v2 w2∧w2.ownsRow Wq.heap.size 49 5 v2 1 [.int .i64 n.id,.int .i64 n.fr,.int .i64 n.tt,.string n.type,.slice pa n.props.length pc]∧Below Wq.heap.size Wq w2):=fun v1 w1 h1 h2=>by
   obtain ⟨ua,uc,e1⟩:=Zw h1
   have hbA:Below w1.heap.size w1 (w1.alloc (.cells #[.int .i64 n.id,.int .i64 n.fr,.int .i64 n.tt,.string n.type,.slice pa n.props.length pc] 49)):=(Below.refl _ _).alloc (Nat.le_refl _) _
   have hrA:=Zl w1 #[.int .i64 n.id,.int .i64 n.fr,.int .i64 n.tt,.string n.type,.slice pa n.props.length pc] 49
   obtain ⟨v2,w2,r2,o2,hb2⟩:=Zch (ty:=23) (c:=1) (a:=some ⟨w1.heap.size,0,none⟩) (Zt h1 fun g _ hg=>hbA.block g hg) (m:=1) (news:=[.int .i64 n.id,.int .i64 n.fr,.int .i64 n.tt,.string n.type,.slice pa n.props.length pc]) rfl (fun u hu=>by simp only [List.mem_cons,List.not_mem_nil,or_false] at hu;rcases hu with rfl | rfl | rfl | rfl | rfl<;>rfl) (.inr ⟨w1.heap.size,0,rfl,fun q u hu=>by rw [Nat.zero_add];exact hrA.cell q (by simpa using hu)⟩) (by omega) (by have:=h2.size;have:=hbA.size;omega)
   exact ⟨ua,uc,v2,w2,e1,r2,by simpa using o2,(h2.trans (hbA.mono h2.size)).trans hb2⟩
  cases a with
  | none =>
   obtain ⟨v1,w1,r1,o1,hb1⟩:=HNO.out (none) c Wq.heap.size 0 (.slice none 0 0) [] Wq (World.ownsRow_nil _ _ _ _) (by omega) (Nat.le_refl _)
   obtain ⟨ua,uc,v2,w2,rfl,r2,o2,hb2⟩:=HTL.out v1 w1 o1 hb1
   obtain ⟨ub,ud,rfl⟩:=Zw o2
   have HRX:=Zb ((HR1.out.below (HQ1.out) HR1.out.lt).below hb1 (Nat.lt_of_lt_of_le HR1.out.lt HQ1.out.size))
   go_upto_region 5 with (at_builtin;refine Zg rfl _ _ 23 rfl rfl rfl r1 ?_)
   have HB2:=Zb hb2
   have HO2:=Zb o2
   have z0:=HRX.out.cell 0 rfl
   have z1:=HRX.out.cell 1 rfl
   have z2:=HRX.out.cell 2 rfl
   have z3:=HRX.out.cell 3 rfl
   have z4:=HRX.out.cell 4 rfl
   clear r1 o1 hb1 o2 hb2
   go_upto_region 6 with (at_builtin;refine Zg rfl _ _ 23 rfl rfl rfl r2 ?_)
   clear z0 z1 z2 z3 z4 r2 HRX
   go_quiet (fail)
   generalize hWd:World.drewN _ _=Wd
   have HBd:Hid (Below w2.heap.size w2 Wd):=by rw [← hWd];exact below_drewN _ _ _
   clear hWd
   obtain ⟨v3,w3,r3,o3,hb3⟩:=HNO.out (none) c Wq.heap.size 1 _ _ Wd (Zt HO2.out fun g _ hg=>HBd.out.block g hg) (by omega) (by have:=HB2.out.size;have:=HBd.out.size;omega)
   have HO3:=Zb o3
   have HB3:Hid (Below w.heap.size w w3):=(Za (Za (Za HB1.out HQ1.out) HB2.out) HBd.out).trans (hb3.mono (Za HB1.out HQ1.out).size)
   clear o3 hb3
   go_wp2_with (at_builtin;refine Zg rfl _ _ 23 rfl rfl rfl r3 ?_)
   go_ret
   exact Zol (key:=Jj.id) (ns:=[]) (css:=[]) (j:=0) (d:=0) (m:=1) Zb5 (fun c hc=>by simp at hc) rfl (by intro v hv;simp only [List.mem_cons,List.not_mem_nil,or_false] at hv;rcases hv with rfl | rfl | rfl | rfl | rfl<;>rfl) HNL.out rfl rfl (by simpa using HO3.out) HB3.out (Za HB1.out HQ1.out).size
  | some ad =>
   obtain ⟨v1,w1,r1,o1,hb1⟩:=HNO.out (some ad) c Wq.heap.size 0 (.slice none 0 0) [] Wq (World.ownsRow_nil _ _ _ _) (by omega) (Nat.le_refl _)
   obtain ⟨ua,uc,v2,w2,rfl,r2,o2,hb2⟩:=HTL.out v1 w1 o1 hb1
   obtain ⟨ub,ud,rfl⟩:=Zw o2
   have HRX:=Zb ((HR1.out.below (HQ1.out) HR1.out.lt).below hb1 (Nat.lt_of_lt_of_le HR1.out.lt HQ1.out.size))
   go_upto_region 5 with (at_builtin;refine Zg rfl _ _ 23 rfl rfl rfl r1 ?_)
   have HB2:=Zb hb2
   have HO2:=Zb o2
   have z0:=HRX.out.cell 0 rfl
   have z1:=HRX.out.cell 1 rfl
   have z2:=HRX.out.cell 2 rfl
   have z3:=HRX.out.cell 3 rfl
   have z4:=HRX.out.cell 4 rfl
   clear r1 o1 hb1 o2 hb2
   go_upto_region 6 with (at_builtin;refine Zg rfl _ _ 23 rfl rfl rfl r2 ?_)
   clear z0 z1 z2 z3 z4 r2 HRX
   go_quiet (fail)
   generalize hWd:World.drewN _ _=Wd
   have HBd:Hid (Below w2.heap.size w2 Wd):=by rw [← hWd];exact below_drewN _ _ _
   clear hWd
   obtain ⟨v3,w3,r3,o3,hb3⟩:=HNO.out (some ad) c Wq.heap.size 1 _ _ Wd (Zt HO2.out fun g _ hg=>HBd.out.block g hg) (by omega) (by have:=HB2.out.size;have:=HBd.out.size;omega)
   have HO3:=Zb o3
   have HB3:Hid (Below w.heap.size w w3):=(Za (Za (Za HB1.out HQ1.out) HB2.out) HBd.out).trans (hb3.mono (Za HB1.out HQ1.out).size)
   clear o3 hb3
   go_wp2_with (at_builtin;refine Zg rfl _ _ 23 rfl rfl rfl r3 ?_)
   go_ret
   exact Zol (key:=Jj.id) (ns:=[]) (css:=[]) (j:=0) (d:=0) (m:=1) Zb5 (fun c hc=>by simp at hc) rfl (by intro v hv;simp only [List.mem_cons,List.not_mem_nil,or_false] at hv;rcases hv with rfl | rfl | rfl | rfl | rfl<;>rfl) HNL.out rfl rfl (by simpa using HO3.out) HB3.out (Za HB1.out HQ1.out).size
theorem Jey (ns:List Jj) (n:Jj) (B:Nat) (w0:World) (Q:Nat→Prop) (v nv:Value) (w:World) (hl:Zeg 5 (Jc B w0) Q w v ns) (hn:Jc B w0 nv n) (hln:ns.length≤999990) :
  Calls Tryz.prog 63 #[v,nv] w fun e w'=>∃ v',e=.returned v'∧Zeg 5 (Jc B w0) (fun bl=>w.heap.size≤bl) w' v' (Zcf Jj.id n ns)∧Below w.heap.size w w':=by
 by_cases h:ns=[]
 ·subst h
  obtain ⟨a,c,css,rfl,_,hc,_⟩:=hl
  exact Zrw n a c hc B w0 nv w hn
 ·exact Zqb ns h n B w0 Q v nv w hl hn hln
