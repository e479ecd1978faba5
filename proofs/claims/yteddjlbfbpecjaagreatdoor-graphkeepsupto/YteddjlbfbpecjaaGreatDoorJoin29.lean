/- A graph is told, in memory of its own; a graph that was made tells what it was made of. What lies in blocks of its own stays, if a block changes that has neither texts nor truths. A graph that was made, with one node more: what it tells. The shelf's contract at this dump: bits.Len. -/
import Derived.Test.YteddjlbfbpecjaaGreatDoorGtl2
import Derived.Test.YteddjlbfbpecjaaGreatDoorJoin28
import Derived.Test.YteddjlbfbpecjaaGreatDoorJoin17
import Derived.Test.YteddjlbfbpecjaaGreatDoorGed15
import Derived.Shelf.Small.Bits
import Derived.Ground.NamesProg
import Derived.Test.YteddjlbfbpecjaaGreatDoorProg
namespace Go.Proofs.YteddjlbfbpecjaaGreatDoor
open Go.RowKit Go.Shelf
set_option linter.unusedVariables false
set_option linter.unusedSimpArgs false
attribute [local go_sem] Oper.semAt_some
def TellF (w:World) (g:GraphP) (e:Ending) (w':World):Prop:=∃ v,e=.returned v∧GraphF w.heap.size w'.heap.size w' v g∧Below w.heap.size w w'
theorem GraphF.keep {lo B:Nat} {w w':World} {v:Value} {g:GraphP} (hk:KeepsF lo B w w') (h:GraphF lo B w v g):GraphF lo B w' v g:=by
 obtain ⟨nv,rv,e,h1,h2⟩:=h
 exact ⟨nv,rv,e,h1.keep hk,h2.keep hk⟩
theorem GraphF.mono {lo lo' B B':Nat} {w:World} {v:Value} {g:GraphP} (hl:lo'≤lo) (hB:B≤B') (h:GraphF lo B w v g):GraphF lo' B' w v g:=by
 obtain ⟨nv,rv,e,h1,h2⟩:=h
 exact ⟨nv,rv,e,h1.mono hl hB,h2.mono hl hB⟩
set_option maxRecDepth 100000 in
set_option maxHeartbeats 8000000 in
theorem Tell_any {w:World} {p:GP} {nn nr:Int} {N R F T:List (Int × Value)} (h:GS w p nn nr N R F T) (B:Nat) (hB:B≤w.heap.size) (ns:List NodeP) (rs:List RelP) (ht:TellOf B w N R ns rs)
  (hn:∀ x ∈ ns,x.labels.length≤2000000∧x.props.length≤2000000∧∀ q ∈ x.props,q.2.total≤2000000) (hu:∀ x ∈ rs,x.props.length≤2000000∧∀ q ∈ x.props,q.2.total≤2000000) :
  Calls Tryz.prog 19 #[p.val] w (TellF w ⟨ns,rs,nn,nr⟩):=by
 have HTh:Hid (∀ W,Below w.heap.size w W→Calls Tryz.prog 18 #[.pointer (some ⟨p.g,0,none⟩)] W fun e w'=>e=.returned (.bool true)∧w'=W):=fun W hW=>there_yes (h.below hW)
 have HTl:=hidE (fun W (hW:Below w.heap.size w W)=>tell_any (h.below hW) B (Nat.le_trans hB hW.size) ns rs (ht.below (hW.mono hB)))
 have h1:ns.length≤2000000:=by rw [ht.nlen];exact ht.nl
 have h2:rs.length≤2000000:=by rw [ht.rlen];exact ht.rl
 have HCo:=hidE (fun v W (hW:GraphLies W.heap.size W v ⟨ns,rs,nn,nr⟩)=>copyG_any ⟨ns,rs,nn,nr⟩ v W.heap.size W (Nat.le_refl _) hW h1 h2 hn hu)
 clear h ht hn hu h1 h2
 unfold GP.val
 go_enter Tryz.func19,Tryz.ntmps19
 go_upto_region 1 with fail
 generalize hW1:World.alloc _ _=W1
 have HB1:Hid (Below w.heap.size w W1):=by rw [← hW1];exact (Below.refl _ _).alloc (Nat.le_refl _) _
 have HZ1:Hid (Rec W1 w.heap.size #[.slice none 0 0,.slice none 0 0,.int .i64 0,.int .i64 0] 25):=by rw [← hW1];exact rec_new _ _ _
 clear hW1
 go_wp2_with fail
 refine (HTh.out W1 HB1.out).mono ?_
 rintro e w2 ⟨rfl,hw2⟩
 rw [hw2]
 clear hw2
 go_wp2_with fail
 refine (HTl.out W1 HB1.out).mono ?_
 rintro e w3 ⟨v3,rfl,hg3,hb3⟩
 have HB3:=hidE (below_on HB1.out hb3)
 have HZ3:=hidE (HZ1.out.below hb3 HZ1.out.lt)
 have HC3:=hidE (HCo.out v3 w3 hg3)
 obtain ⟨na,nc,ra,rc,rfl,hq1,hq2⟩:=hg3
 clear hb3 hq1 hq2
 go_wp2_with fail
 refine HC3.out.mono ?_
 rintro e w4 ⟨v4,rfl,hg4,hb4⟩
 have HB4:=hidE (below_on HB3.out hb4)
 have HZ4:=hidE (HZ3.out.below hb4 HZ3.out.lt)
 have HF4:=hidE hg4
 have hs3:w.heap.size<w3.heap.size:=HZ3.out.lt
 obtain ⟨nv,rv,rfl,hq1,hq2⟩:=hg4
 obtain ⟨na4,nc4,rfl,_⟩:=hq1
 obtain ⟨ra4,rc4,rfl,_⟩:=hq2
 clear hb4 HC3
 have b0:=HZ4.out.cell 0 rfl
 have b1:=HZ4.out.cell 1 rfl
 have b2:=HZ4.out.cell 2 rfl
 have b3:=HZ4.out.cell 3 rfl
 have y0:=HZ4.out.z 0
 have y1:=HZ4.out.z 1
 have y2:=HZ4.out.z 2
 have y3:=HZ4.out.z 3
 go_wp2_with fail
 generalize hW9:World.setCell _ _ _=W9
 have HR9:Hid (Rec W9 w.heap.size #[.slice na4 ns.length nc4,.slice ra4 rs.length rc4,.int .i64 nn,.int .i64 nr] 25):=by rw [← hW9];exact (((HZ4.out.set 0 _).set 1 _).set 2 _).set 3 _
 have HB9:Hid (Below w.heap.size w W9):=by rw [← hW9];exact (((HB4.out.setCell (Nat.le_refl _) _).setCell (Nat.le_refl _) _).setCell (Nat.le_refl _) _).setCell (Nat.le_refl _) _
 have hs9:W9.heap.size=w4.heap.size:=by rw [← hW9];simp
 have HH9:Hid (∀ b,w.heap.size≠b→W9.heap[b]?=w4.heap[b]?):=fun b hb=>by
  rw [← hW9]
  repeat rw [Below.heap_setCell _ _ _ _ (Ne.symm hb)]
 have HF9:Hid (GraphF w.heap.size W9.heap.size W9 (.agg #[.slice na4 ns.length nc4,.slice ra4 rs.length rc4,.int .i64 nn,.int .i64 nr]) ⟨ns,rs,nn,nr⟩):=by
  rw [hs9]
  refine GraphF.mono (Nat.le_of_lt hs3) (Nat.le_refl _) (GraphF.keep ?_ HF4.out)
  intro b o h1 h2
  exact ⟨World.cell?_of_block (HH9.out b (by omega)),by unfold World.frozen?;rw [HH9.out b (by omega)]⟩
 clear hW9
 have q0:=HR9.out.cell 0 rfl
 have q1:=HR9.out.cell 1 rfl
 have q2:=HR9.out.cell 2 rfl
 have q3:=HR9.out.cell 3 rfl
 refine bodyPost_ret (v:=.agg #[.slice na4 ns.length nc4,.slice ra4 rs.length rc4,.int .i64 nn,.int .i64 nr]) ?_ rfl ⟨_,rfl,HF9.out,HB9.out⟩
 simp [results,Tryz.results19,go_sem,q0,q1,q2,q3]
theorem riseI_lt {next:Int}:∀ {ks:List Int} {l:Int},riseI next l ks=true→ks.Pairwise (·<·)
 | [],l,h=>List.Pairwise.nil
 | y::r,l,h=>by
  rw [riseI] at h
  simp only [Bool.and_eq_true,Bool.not_eq_true',decide_eq_false_iff_not] at h
  obtain ⟨h1,h2,h3⟩:=h
  have h4:=(riseI_all h3).1
  exact List.pairwise_cons.2 ⟨fun x hx=>by have:=h4 x hx;omega,riseI_lt h3⟩
theorem sortI_rise {ks:List Int} (h:ks.Pairwise (·<·)):sortI ks=ks:=by
 unfold sortI
 exact List.mergeSort_of_pairwise (h.imp fun h=>by simp;omega)
theorem ents_key {α:Type} {key:α→Int} {L:World→Value→α→Prop} {w:World} {N:List (Int × Value)} {xs:List α} (h:Ents key L w N xs):N.map Prod.fst=xs.map key:=by
 apply List.ext_getElem?
 intro i
 rw [List.getElem?_map,List.getElem?_map]
 by_cases hi:i<xs.length
 ·obtain ⟨x,hx⟩:∃ q,xs[i]?=some q:=⟨_,List.getElem?_eq_getElem hi⟩
  obtain ⟨v,h1,_⟩:=h.2 i x hx
  rw [hx,h1];rfl
 ·rw [List.getElem?_eq_none (by rw [h.1];omega),List.getElem?_eq_none (by omega)];rfl
theorem ents_uniq {α:Type} {key:α→Int} {L:World→Value→α→Prop} {w:World} {N:List (Int × Value)} {xs:List α} (h:Ents key L w N xs) (hd:(xs.map key).Nodup):Uniq N:=by
 have hd':(N.map Prod.fst).Nodup:=by rw [ents_key h];exact hd
 intro a ha b hb e
 obtain ⟨i,hi⟩:=List.getElem?_of_mem ha
 obtain ⟨j,hj⟩:=List.getElem?_of_mem hb
 obtain ⟨k,u⟩:=a
 obtain ⟨k',u'⟩:=b
 simp only at e
 subst e
 have:=nodup_at hd' hi hj
 subst this
 rw [hi] at hj
 injection hj with hj
 injection hj
theorem ents_mem {α:Type} {key:α→Int} {L:World→Value→α→Prop} {w:World} {N:List (Int × Value)} {xs:List α} (h:Ents key L w N xs):∀ x ∈ xs,∃ v,(key x,v) ∈ N∧L w v x:=by
 intro x hx
 obtain ⟨i,hi⟩:=List.getElem?_of_mem hx
 obtain ⟨v,h1,h2⟩:=h.2 i x hi
 exact ⟨v,List.mem_of_getElem? h1,h2⟩
theorem tell_made {b0:Nat} {g:GraphP} {p:GP} {B lo:Nat} {N R F T:List (Int × Value)} {w:World} (h:Holds b0 g p B lo N R F T w) (hc:checkPB g=true) (hz1:g.nodes.length≤2000000) (hz2:g.rels.length≤2000000) (ht:∀ r ∈ g.rels,r.type.size≤maxLen):TellOf B w N R g.nodes g.rels:=by
 unfold checkPB at hc
 simp only [Bool.and_eq_true] at hc
 have h1:=riseI_lt hc.2.1.1
 have h2:=riseI_lt hc.2.1.2
 have e1:=ents_key h.nodes
 have e2:=ents_key h.rels
 refine ⟨by rw [h.nodes.1];exact hz1,by rw [h.rels.1];exact hz2,?_,?_,ents_uniq h.nodes (h1.imp fun h=>by omega),ents_uniq h.rels (h2.imp fun h=>by omega),ents_mem h.nodes,ents_mem h.rels,ht⟩
 ·rw [e1,sortI_rise h1]
 ·rw [e2,sortI_rise h2]
end Go.Proofs.YteddjlbfbpecjaaGreatDoor

namespace Go.Proofs.YteddjlbfbpecjaaGreatDoor
open Go.RowKit Go.Shelf
set_option linter.unusedVariables false
def Other (w:World) (X:Nat):Prop:=∀ o,(∀ s,w.cell? ⟨X,o,none⟩≠some (.string s))∧∀ b,w.cell? ⟨X,o,none⟩≠some (.bool b)
def ButF (lo B X:Nat) (w w':World):Prop:=∀ b o,lo≤b→b<B→b≠X→w'.cell? ⟨b,o,none⟩=w.cell? ⟨b,o,none⟩∧w'.frozen? ⟨b,o,none⟩=w.frozen? ⟨b,o,none⟩
theorem KeysF.but {lo B X:Nat} {w w':World} (hx:Other w X) (hk:ButF lo B X w w') {ad:Option Addr} {ks:List ByteArray} (h:KeysF lo B w ad ks):KeysF lo B w' ad ks:=by
 cases ks with
 | nil=>exact .inl rfl
 | cons k r =>
  refine h.imp id fun ⟨b,off,h1,h2,h3,h4⟩=>⟨b,off,h1,h2,h3,fun i hi=>?_⟩
  have hb:b≠X:=fun e=>(hx (off+i)).1 _ (e▸(h4 i hi).1)
  exact ⟨(hk b _ h2 h3 hb).1.trans (h4 i hi).1,(h4 i hi).2.1,(hk b _ h2 h3 hb).2.trans (h4 i hi).2.2⟩
theorem liesF_bool {lo B:Nat} {w:World} {v0 v1 v2 v3 v4 v5:Value} {T:Tree} (h:LiesF lo B w (.agg #[v0,v1,v2,v3,v4,v5]) T):∃ b,v1=.bool b:=by
 obtain ⟨k,b,n,s,ks,ts⟩:=T
 simp only [LiesF] at h
 obtain ⟨ka,kc,la,lc,hv,_⟩:=h
 have h2:v0=.int .i64 k∧v1=.bool b∧v2=.int .i64 n∧v3=.string s∧v4=.slice ka ks.length kc∧v5=.slice la ts.length lc:=by simpa using hv
 exact ⟨b,h2.2.1⟩
mutual
theorem LiesF.but {lo B X:Nat} {w w':World} (hx:Other w X) (hk:ButF lo B X w w'):∀ {v:Value} {T:Tree},LiesF lo B w v T→LiesF lo B w' v T
 | v,.mk k b n s ks ts,h=>by
  simp only [LiesF] at h ⊢
  obtain ⟨ka,kc,la,lc,hv,hs,hks,ht⟩:=h
  exact ⟨ka,kc,la,lc,hv,hs,hks.but hx hk,ht.imp id fun ⟨bl,off,h1,h2,h3,h4⟩=>⟨bl,off,h1,h2,h3,KidsF.but hx hk h2 h3 h4⟩⟩
theorem KidsF.but {lo B X:Nat} {w w':World} (hx:Other w X) (hk:ButF lo B X w w') {bl:Nat} (h1:lo≤bl) (h2:bl<B):∀ {off:Nat} {ts:List Tree},KidsF lo B w bl off ts→KidsF lo B w' bl off ts
 | off,[],_=>by simp only [KidsF]
 | off,t::ts,h=>by
  simp only [KidsF] at h ⊢
  obtain ⟨⟨v0,v1,v2,v3,v4,v5,⟨c0,c1,c2,c3,c4,c5⟩,hf,hv⟩,hr⟩:=h
  have hb:bl≠X:=fun e=>by
   obtain ⟨b,rfl⟩:=liesF_bool hv
   exact (hx (off+1)).2 b (e▸c1)
  exact ⟨⟨v0,v1,v2,v3,v4,v5,⟨(hk bl _ h1 h2 hb).1.trans c0,(hk bl _ h1 h2 hb).1.trans c1,(hk bl _ h1 h2 hb).1.trans c2,(hk bl _ h1 h2 hb).1.trans c3,(hk bl _ h1 h2 hb).1.trans c4,(hk bl _ h1 h2 hb).1.trans c5⟩,(hk bl _ h1 h2 hb).2.trans hf,LiesF.but hx hk hv⟩,KidsF.but hx hk h1 h2 hr⟩
end
theorem PropsF.but {lo B X:Nat} {w w':World} (hx:Other w X) (hk:ButF lo B X w w') {v:Value} {ps:List (ByteArray × Tree)} (h:PropsF lo B w v ps):PropsF lo B w' v ps:=by
 obtain ⟨pa,pc,e,h1,h2,h3⟩:=h
 cases ps with
 | nil=>exact ⟨pa,pc,e,h1,h2,.inl rfl⟩
 | cons q r =>
  refine ⟨pa,pc,e,h1,h2,h3.imp id fun ⟨g,e,hl,hg,hr,hf⟩=>?_⟩
  obtain ⟨cs,_,hc,v0,v1,v2,v3,v4,v5,rfl,_⟩:=hf 0 q rfl
  have hb:g≠X:=fun e=>(hx _).1 _ (e▸hc 0 _ rfl)
  refine ⟨g,e,hl,hg,fun o ho=>by rw [(hk g o hl hg hb).1,(hk g o hl hg hb).2];exact hr o ho,fun i x hx'=>?_⟩
  obtain ⟨cs,hl',hc,v0,v1,v2,v3,v4,v5,rfl,hs,hv⟩:=hf i x hx'
  exact ⟨_,hl',fun q v hq=>(hk g _ hl hg hb).1.trans (hc q v hq),v0,v1,v2,v3,v4,v5,rfl,hs,hv.but hx (fun b o h1 h2 h3=>hk b o (by omega) h2 h3)⟩
end Go.Proofs.YteddjlbfbpecjaaGreatDoor

namespace Go.Proofs.YteddjlbfbpecjaaGreatDoor
open Go.RowKit Go.Shelf
set_option linter.unusedVariables false
set_option linter.unusedSimpArgs false
theorem row_keys {W:World} {base:Nat} {la:Option Addr} {ln lc:Nat} {ks:List ByteArray} (h:W.ownsRow base 9 1 (.slice la ln lc) ks.length (ks.map Value.string)) (hs:∀ x ∈ ks,x.size≤maxLen):ln=ks.length∧ks.length≤lc∧lc≤9223372036854775807∧KeysLie W.heap.size W la ks:=by
 have h':=h
 rcases h.2 with ⟨h1,h0⟩ | ⟨gb,gc,cur,h1,hbase,hgb,r1,r2,r3,r4⟩
 ·injection h1 with e1 e2 e3
  have:ks=[]:=List.eq_nil_of_length_eq_zero h0
  subst this
  exact ⟨e2,by simp,by omega,.inl rfl⟩
 ·injection h1 with e1 e2 e3
  subst e1 e2 e3
  refine ⟨rfl,r1,by unfold maxLen at r2;omega,.inr ⟨gb,0,rfl,?_,fun i hi=>⟨?_,hs _ ?_⟩⟩⟩
  ·exact (Array.getElem?_eq_some_iff.1 hgb).1
  ·have:=h'.cells (g:=gb) rfl i (.string (ks.getD i ⟨#[]⟩)) (by simp [List.getElem?_map,List.getElem?_eq_getElem hi,List.getD_eq_getElem?_getD])
   have hadd:(⟨gb,0,none⟩:Addr).add i=⟨gb,0+i,none⟩:=by unfold Addr.add;split<;>simp_all
   rwa [hadd] at this
  ·rw [List.getD_eq_getElem?_getD,List.getElem?_eq_getElem hi];exact List.getElem_mem hi
theorem riseI_next {next:Int}:∀ {ks:List Int} {l:Int},riseI next l ks=true→(∀ x ∈ ks,x<next)∧0≤next∧next≤4611686018427387904
 | [],l,h=>by
  rw [riseI] at h
  simp only [Bool.and_eq_true,decide_eq_true_eq] at h
  exact ⟨fun x hx=>by simp at hx,h⟩
 | y::r,l,h=>by
  rw [riseI] at h
  simp only [Bool.and_eq_true,Bool.not_eq_true',decide_eq_false_iff_not] at h
  obtain ⟨h1,h2,h3⟩:=h
  have h4:=riseI_next h3
  exact ⟨fun x hx=>(List.mem_cons.1 hx).elim (fun e=>by omega) (h4.1 x),h4.2⟩
theorem tell_added {b0:Nat} {g:GraphP} {p:GP} {B lo:Nat} {N R F T:List (Int × Value)} {w w':World} (h:Holds b0 g p B lo N R F T w) (hc:checkPB g=true) (hz1:g.nodes.length≤1999999) (hz2:g.rels.length≤2000000) (ht:∀ r ∈ g.rels,r.type.size≤maxLen)
  (hb:Below B w w') {v:Value} {n:NodeP} (hn:NodeLies w'.heap.size w' v n) (hid:n.id=g.nn):TellOf w'.heap.size w' (N++[(g.nn,v)]) R (g.nodes++[n]) g.rels:=by
 have hB:B≤w'.heap.size:=by have:=h.lob;have:=hb.size;omega
 have h0:=tell_made h hc (by omega) hz2 ht
 unfold checkPB at hc
 simp only [Bool.and_eq_true] at hc
 have h1:=riseI_lt hc.2.1.1
 have h2:=(riseI_next hc.2.1.1).1
 have e1:=ents_key h.nodes
 have e2:(N++[(g.nn,v)]).map Prod.fst=(g.nodes++[n]).map NodeP.id:=by
  rw [List.map_append,List.map_append,e1]
  simp [hid]
 have h3:((g.nodes++[n]).map NodeP.id).Pairwise (·<·):=by
  rw [List.map_append]
  refine List.pairwise_append.2 ⟨h1,by simp,fun a ha b hb=>?_⟩
  simp only [List.map_cons,List.map_nil,List.mem_cons,List.not_mem_nil,or_false] at hb
  rw [hb,hid]
  exact h2 a ha
 have h4:∀ q ∈ N,q.1≠g.nn:=fun q hq=>by
  have:q.1 ∈ g.nodes.map NodeP.id:=by rw [← e1];exact List.mem_map_of_mem hq
  have:=h2 _ this
  omega
 refine ⟨?_,h0.rl,by rw [e2,sortI_rise h3],h0.ro,?_,h0.ru,?_,?_,ht⟩
 ·rw [List.length_append,h.nodes.1]
  simp
  omega
 ·intro a ha b hb e
  rcases List.mem_append.1 ha with ha | ha<;>rcases List.mem_append.1 hb with hb | hb
  ·exact h0.nu a ha b hb e
  ·simp only [List.mem_cons,List.not_mem_nil,or_false] at hb
   rw [hb] at e
   exact absurd e (h4 a ha)
  ·simp only [List.mem_cons,List.not_mem_nil,or_false] at ha
   rw [ha] at e
   exact absurd e.symm (h4 b hb)
  ·simp only [List.mem_cons,List.not_mem_nil,or_false] at ha hb
   rw [ha,hb]
 ·intro x hx
  rcases List.mem_append.1 hx with hx | hx
  ·obtain ⟨u,q1,q2⟩:=h0.ne x hx
   exact ⟨u,List.mem_append_left _ q1,(q2.below hb).mono hB⟩
  ·simp only [List.mem_cons,List.not_mem_nil,or_false] at hx
   rw [hx]
   exact ⟨v,List.mem_append_right _ (by simp [hid]),hn⟩
 ·intro x hx
  obtain ⟨u,q1,q2⟩:=h0.re x hx
  exact ⟨u,q1,(q2.below hb).mono hB⟩
end Go.Proofs.YteddjlbfbpecjaaGreatDoor

namespace Go.Proofs
open Go.Shelf
def Tryz.lays125_ren  : Go.Shelf.Ren:=⟨fun | 125=>167 | 128=>202 | 129=>203 | n=>n,fun | 46=>200 | 3=>3 | 51=>234 | 53=>236 | 4=>4 | 5=>5 | 9=>9 | n=>n,fun | n=>n⟩
theorem Tryz.lays125  : Go.Proofs.Lays.n125 Tryz.prog Tryz.lays125_ren:={
 mixed:=by kernel_rfl
 f125:=Tryz.func167.trans (congrArg some (by kernel_rfl))
 f128:=Tryz.func202.trans (congrArg some (by kernel_rfl))
 f129:=Tryz.func203.trans (congrArg some (by kernel_rfl))
 t3:=Tryz.underlying3
 a3:=Tryz.isAgg3
 z3:=Tryz.sizeOf3
 v3:=Tryz.zeroValue3
 t4:=Tryz.underlying4
 a4:=Tryz.isAgg4
 z4:=Tryz.sizeOf4
 v4:=Tryz.zeroValue4
 t5:=Tryz.underlying5
 a5:=Tryz.isAgg5
 z5:=Tryz.sizeOf5
 v5:=Tryz.zeroValue5
 t9:=Tryz.underlying9
 a9:=Tryz.isAgg9
 z9:=Tryz.sizeOf9
 v9:=Tryz.zeroValue9
 t46:=Tryz.underlying200
 a46:=Tryz.isAgg200
 z46:=Tryz.sizeOf200
 v46:=Tryz.zeroValue200
 t51:=Tryz.underlying234
 a51:=Tryz.isAgg234
 z51:=Tryz.sizeOf234
 v51:=Tryz.zeroValue234
 t53:=Tryz.underlying236
 a53:=Tryz.isAgg236
 z53:=Tryz.sizeOf236
 v53:=Tryz.zeroValue236 }
theorem Tryz.bits_Len (x:Int) (w:World) (h0:0≤x) (h1:x≤18446744073709551615) :
  Calls Tryz.prog 167 #[.int .u64 x] w fun e w'=>e=.returned (.int .i64 (Lib.bitLen x.toNat))∧w'=w:=Any.bits_Len Tryz.lays125 x w h0 h1
end Go.Proofs

