import Derived.Deep.AppendLies
import Derived.Test.YteddjlbfbpecjaaGreatDoorJoin36
namespace Go.Proofs.YteddjlbfbpecjaaGreatDoor
set_option maxHeartbeats 16000000
set_option maxRecDepth 100000
set_option linter.all false
section
open Go.RowKit Go.Shelf
attribute [local go_sem] Oper.semAt_some
def Zo2  : Value->Nat
 | .slice _ n _=>n
 | _=>0
theorem Zg5 {t e ty k bytes base n c F off:Nat} {i0:TypeInfo} {z:Value} (ht:Tryz.prog.underlying t=some (.slice e)) (hi:Tryz.prog.info? e=some i0) (hz:i0.zero=some z) (h7:i0.size=k) (k6:i0.bytes=bytes) (j2:z.cells.size=k) (hk:0<k) (k2:bytes<=200)
  {v:Value} {xs news:List Value} {w:World} (f9:w.ownsRow base e k v n xs) (hl:news.length=k) (h1:∀ u ∈ news,u.oneCell'=true) (f7:∀ j u,news[j]?=some u->w.cell? ⟨F,off+j,none⟩=some u) (hn:n+1<=1000000) (hb:base<=w.heap.size) :
  ∃ g cap w',(Builtin.append_ #[t,t] ty #[v,.slice (some ⟨F,off,none⟩) 1 c]).run Tryz.prog w=.ok (.slice (some ⟨g,0,none⟩) (n+1) cap) w'/\w'.ownsRow base e k (.slice (some ⟨g,0,none⟩) (n+1) cap) (n+1) (xs++news)/\w.grownBy w' v.ownBlock/\(v.ownBlock=some g\/g=w.heap.size)/\g<w'.heap.size:=by
 have j6:(n+1)*bytes<=140737488355328:=Nat.le_trans (Nat.mul_le_mul hn k2) (by decide)
 exact run_append_lies (P:=Tryz.prog) w t ty base e i0 z k bytes ht hi hz h7 k6 j2 hk v n xs f9 ⟨F,off,none⟩ 1 c news (by rw [hl,Nat.one_mul]) (fun j u hu=>by
  have j9:(⟨F,off,none⟩:Addr).add j=⟨F,off+j,none⟩:=by unfold Addr.add;split<;>simp_all
  rw [j9];exact f7 j u hu) h1 (by omega) (by unfold maxLen;omega) j6 hb _ rfl
theorem Zot {base f0 e e' k k' n n':Nat} {v v':Value} {xs k1:List Value} {w w':World} (h:w.ownsRow base e k v n xs) (h':w.ownsRow f0 e' k' v' n' k1) (he:e≠e') (hg:w.grownBy w' v.ownBlock):w'.ownsRow f0 e' k' v' n' k1:=by
 refine h'.kept hg ?_
 rcases h'.2 with ⟨rfl,_⟩ | ⟨g',k8,k7,rfl,_,k3,_⟩
 ·exact .inl rfl
 ·refine .inr fun e1=>?_
  rcases h.2 with ⟨rfl,_⟩ | ⟨g,cap,cur,rfl,_,i7,_⟩
  ·cases e1
  ·have e2:g'=g:=by simpa [Value.ownBlock] using e1
   subst e2
   rw [k3] at i7
   simp only [Option.some.injEq] at i7
   injection i7 with _ e3
   exact he e3.symm
theorem Zsd {cs:List Value} {w:World} {X:Nat} {t:TypeId} (h:Rec w X cs.toArray t):∀ j u,cs[j]?=some u->w.cell? ⟨X,0+j,none⟩=some u:=fun j u hu=>by
 rw [Nat.zero_add];exact h.cell j (by simpa using hu)
theorem Jdo {ty base n c F off:Nat} {v u:Value} {xs:List Value} {w:World} (f9:w.ownsRow base 2 1 v n xs) (h1:u.oneCell'=true) (f7:w.cell? ⟨F,off,none⟩=some u) (hn:n+1<=1000000) (hb:base<=w.heap.size) :
  ∃ g cap w',(Builtin.append_ #[100,100] ty #[v,.slice (some ⟨F,off,none⟩) 1 c]).run Tryz.prog w=.ok (.slice (some ⟨g,0,none⟩) (n+1) cap) w'/\w'.ownsRow base 2 1 (.slice (some ⟨g,0,none⟩) (n+1) cap) (n+1) (xs++[u])/\w.grownBy w' v.ownBlock/\(v.ownBlock=some g\/g=w.heap.size)/\g<w'.heap.size:=by
 obtain ⟨i0,hi,j5,j4,i6⟩:=info_parts Tryz.info2
 exact Zg5 (z:=.int .i64 0) Tryz.underlying100 hi j5 j4 i6 rfl (by decide) (by decide) f9 rfl (fun x hx=>(show x=u by simpa using hx)▸h1) (fun j x hx=>by
  cases j with
  | zero=>obtain rfl:=Option.some.inj hx;exact f7
  | succ j=>simp at hx) hn hb
section
variable {α:Type} {key:α->Int} {same:α->α->Bool} {k el:Nat} {L:Value->α->Prop} {Lie:Value->List α->Prop} {xs ys es bs Q:List α} {G:List Int} {des:List (List Value)} {g p:Value} {gl ql:Nat} {w wr W w9:World}
def Ag (key:α->Int) (same:α->α->Bool) (k el:Nat) (L:Value->α->Prop) (Lie:Value->List α->Prop) (xs ys:List α) (w:World) (a b g p:Value) (wr:World):Prop :=
 ∃ (es bs:List α) (G:List Int) (Q:List α) (des:List (List Value)),(Lie a es/\Lie b bs/\(∀ n ∈ es,n ∈ xs)/\(∀ n ∈ bs,n ∈ ys)/\(es.map key).Pairwise (·<·)/\(bs.map key).Pairwise (·<·)/\G++Jr key es bs=Jr key xs ys/\Q++Zbu key same es bs=Zbu key same xs ys/\G.length+es.length<=xs.length/\Q.length+bs.length<=ys.length)/\Below w.heap.size w wr/\wr.ownsRow w.heap.size 2 1 g G.length (G.map (.int .i64 ·))/\Css k L des Q/\(∀ c ∈ des,∀ v ∈ c,v.oneCell'=true)/\wr.ownsRow w.heap.size el k p Q.length des.flatten
structure Stg (key:α->Int) (same:α->α->Bool) (k el:Nat) (L:Value->α->Prop) (xs ys:List α) (w:World) (es bs:List α) (G:List Int) (Q:List α) (des:List (List Value)) (g p:Value) (gl ql:Nat) (wr:World):Prop where
 a1:∀ n ∈ es,n ∈ xs
 a2:∀ n ∈ bs,n ∈ ys
 r1:(es.map key).Pairwise (·<·)
 r2:(bs.map key).Pairwise (·<·)
 go:G++Jr key es bs=Jr key xs ys
 pu:Q++Zbu key same es bs=Zbu key same xs ys
 l1:gl+es.length<=xs.length
 l2:ql+bs.length<=ys.length
 le:xs.length<=1000/\ys.length<=1000
 br:Below w.heap.size w wr
 ow:wr.ownsRow w.heap.size 2 1 g gl (G.map (.int .i64 ·))
 cs:Css k L des Q
 on:∀ c ∈ des,∀ v ∈ c,v.oneCell'=true
 op:wr.ownsRow w.heap.size el k p ql des.flatten
 e1:G.length=gl
 e2:Q.length=ql
def Gon (key:α->Int) (same:α->α->Bool) (k el:Nat) (L:Value->α->Prop) (Lie:Value->List α->Prop) (xs ys:List α) (w:World) (es bs:List α) (G:List Int) (Q:List α) (g p:Value) (w9:World):Prop:=∀ (a b:Value) (d5 c7:List α) (W:World),Below w9.heap.size w9 W->Lie a d5->Lie b c7->d5 <:+ es->c7 <:+ bs->G++Jr key d5 c7=Jr key xs ys->Q++Zbu key same d5 c7=Zbu key same xs ys->G.length+d5.length<=xs.length->Q.length+c7.length<=ys.length->Ag key same k el L Lie xs ys w a b g p W
theorem Jhx (a1:∀ n ∈ es,n ∈ xs) (a2:∀ n ∈ bs,n ∈ ys) (r1:(es.map key).Pairwise (·<·)) (r2:(bs.map key).Pairwise (·<·)) (br:Below w.heap.size w w9) (ow:w9.ownsRow w.heap.size 2 1 g G.length (G.map (.int .i64 ·))) (cs:Css k L des Q) (on:∀ c ∈ des,∀ v ∈ c,v.oneCell'=true) (op:w9.ownsRow w.heap.size el k p Q.length des.flatten):Gon key same k el L Lie xs ys w es bs G Q g p w9 :=
 fun a b d5 c7 W H h1 h2 s1 s2 h3 h4 h5 h6=>⟨d5,c7,G,Q,des,⟨h1,h2,fun n hn=>a1 n (s1.subset hn),fun n hn=>a2 n (s2.subset hn),r1.sublist (s1.sublist.map _),r2.sublist (s2.sublist.map _),h3,h4,h5,h6⟩,Za br H,Jf ow fun g _ hg=>H.block g hg,cs,on,Jf op fun g _ hg=>H.block g hg⟩
theorem Jla {cs:List Value} {y:α} (h:Css k L des Q) (h1:∀ c ∈ des,∀ v ∈ c,v.oneCell'=true) (hl:cs.length=k) (h2:∀ v ∈ cs,v.oneCell'=true) (hy:L (.agg cs.toArray) y):Css k L (des++[cs]) (Q++[y])/\∀ c ∈ des++[cs],∀ v ∈ c,v.oneCell'=true :=
 ⟨h.app ⟨rfl,fun i z hz=>by
  cases i with
  | zero=>obtain rfl:=Option.some.inj hz;exact ⟨_,rfl,hl,hy⟩
  | succ i=>simp at hz⟩,fun c hc=>by
  rcases List.mem_append.1 hc with q | q
  ·exact h1 c q
  ·obtain rfl:c=cs:=by simpa using q
   exact h2⟩
theorem Zty {sl bytes:Nat} {z:Value} (ht:Tryz.prog.underlying sl=some (.slice el)) (hi:(Tryz.prog.info? el).map (fun i=>(i.zero,i.size,i.bytes))=some (some z,k,bytes)) (j2:z.cells.size=k) (hk:0<k/\bytes<=200/\el≠2) (h:Stg key same k el L xs ys w es bs G Q des g p gl ql wr) (H:Below wr.heap.size wr W) {y:α} {cs:List Value} (hl:cs.length=k) (ho:∀ v ∈ cs,v.oneCell'=true) (hy:L (.agg cs.toArray) y):∃ g9 c9 w9,(Builtin.append_ #[sl,sl] sl #[p,.slice (some ⟨W.heap.size,0,none⟩) 1 1]).run Tryz.prog (W.alloc (.cells cs.toArray el))=.ok (.slice (some ⟨g9,0,none⟩) (ql+1) c9) w9/\Gon key same k el L Lie xs ys w es bs G (Q++[y]) g (.slice (some ⟨g9,0,none⟩) (ql+1) c9) w9:=by
 have i8:Below W.heap.size W (W.alloc (.cells cs.toArray el)):=(Below.refl _ _).alloc (Nat.le_refl _) _
 have a7:=Za H i8
 have e8:=Jf h.op fun g _ hg=>a7.block g hg
 have g8:=Jf h.ow fun g _ hg=>a7.block g hg
 have s1:=h.br.size
 have s2:=a7.size
 have q1:=h.l2
 have q2:=h.le
 obtain ⟨i0,hi,j5,j4,i6⟩:=info_parts hi
 obtain ⟨g9,c9,w9,r9,o9,f1,_,_⟩:=Zg5 (ty:=sl) (c:=1) ht hi j5 j4 i6 j2 hk.1 hk.2.1 e8 (news:=cs) hl ho (Zsd (Zl W cs.toArray el)) (by omega) (by omega)
 have hc:=Jla h.cs h.on hl ho hy
 exact ⟨g9,c9,w9,r9,Jhx h.a1 h.a2 h.r1 h.r2 ((Za h.br a7).trans (Zdk e8 (by omega) f1)) (by rw [h.e1];exact Zot e8 g8 hk.2.2 f1) hc.1 hc.2 (by rw [List.length_append,h.e2,List.flatten_append];simpa using o9)⟩
theorem Zse (h2:el≠2) (h:Stg key same k el L xs ys w es bs G Q des g p gl ql wr) (H:Below wr.heap.size wr W) (x:Int):∃ g9 c9 w9,(Builtin.append_ #[100,100] 100 #[g,.slice (some ⟨W.heap.size,0,none⟩) 1 1]).run Tryz.prog (W.alloc (.cells #[.int .i64 x] 2))=.ok (.slice (some ⟨g9,0,none⟩) (gl+1) c9) w9/\Gon key same k el L Lie xs ys w es bs (G++[x]) Q (.slice (some ⟨g9,0,none⟩) (gl+1) c9) p w9:=by
 have i8:Below W.heap.size W (W.alloc (.cells #[.int .i64 x] 2)):=(Below.refl _ _).alloc (Nat.le_refl _) _
 have a7:=Za H i8
 have e8:=Jf h.op fun g _ hg=>a7.block g hg
 have g8:=Jf h.ow fun g _ hg=>a7.block g hg
 have s1:=h.br.size
 have s2:=a7.size
 have q1:=h.l1
 have q2:=h.le
 obtain ⟨g9,c9,w9,r9,o9,f1,_,_⟩:=Jdo (ty:=100) (c:=1) (off:=0) g8 (u:=.int .i64 x) rfl ((Zl W #[.int .i64 x] 2).cell 0 rfl) (by omega) (by omega)
 exact ⟨g9,c9,w9,r9,Jhx h.a1 h.a2 h.r1 h.r2 ((Za h.br a7).trans (Zdk g8 (by omega) f1)) (by rw [List.length_append,h.e1,List.map_append];exact o9) h.cs h.on (by rw [h.e2];exact Zot g8 e8 (Ne.symm h2) f1)⟩
end
theorem Jdp {B:Nat} {w:World} {v:Value} {x:Zo} {r:List Zo} (h:Jj B w v (x::r)) (hB:B<=w.heap.size):∃ F off c n pv la lc R O,v=.slice (some ⟨F,off,none⟩) n c/\(n<=c/\c<=9223372036854775807/\0<n)/\(if c=1 then some ⟨F,off,none⟩ else some ⟨F,off+3,none⟩:Option Addr)=pv/\Hid (∀ W,Below w.heap.size w W->W.cell? ⟨F,off,none⟩=some (.int .i64 x.id)/\W.cell? ⟨F,off+1,none⟩=some (.slice la x.labels.length lc)/\W.cell? ⟨F,off+2,none⟩=some (.slice R x.props.length O))/\Hid (Ja B w (.agg #[.int .i64 x.id,.slice la x.labels.length lc,.slice R x.props.length O]) x)/\Hid (Jj B w (.slice pv (n - 1) (c - 1)) r)/\Hid (Jj B w (.slice (some ⟨F,off,none⟩) n c) (x::r)):=by
 have HV:=h
 obtain ⟨a,c,e,h0,h1,h2⟩:=h
 obtain ⟨F,off,rfl,hb,hc⟩:=h2.resolve_left (by simp)
 have h2:=hc 0 x rfl
 rw [Nat.zero_mul,Nat.add_zero] at h2
 subst e
 obtain ⟨la,lc,pv,e0,d,hk,hp⟩:=h2
 obtain ⟨R,O,rfl⟩:=Zau hp
 refine ⟨F,off,c,_,_,la,lc,R,O,rfl,⟨h0,h1,Nat.succ_pos _⟩,rfl,?_,⟨la,lc,R,O,rfl,d,hk,hp⟩,?_,HV⟩
 ·intro W H
  have kk:∀ o,W.cell? ⟨F,o,none⟩=w.cell? ⟨F,o,none⟩:=fun o=>H.cell (p:=⟨F,o,none⟩) (by show F<_;omega)
  simp only [kk];exact e0
 refine ⟨_,c - 1,rfl,by rw [List.length_cons] at h0;omega,by omega,?_⟩
 cases r with
 | nil=>exact .inl rfl
 | cons y s =>
  have j1:c≠1:=by rw [List.length_cons,List.length_cons] at h0;omega
  rw [if_neg j1]
  refine .inr ⟨F,off+3,rfl,hb,fun i n hn=>?_⟩
  have:=hc (i+1) n (by simpa using hn)
  rwa [Nat.add_mul,Nat.one_mul,Nat.add_comm (i*3) 3,<- Nat.add_assoc] at this
theorem Jjg {B:Nat} {w:World} {v:Value} (h:Jj B w v []):∃ a c,v=.slice a 0 c:=by
 obtain ⟨a,c,e,_⟩:=h
 exact ⟨a,c,e⟩
theorem Jbf (xs ys:List Zo) (B:Nat) (v v':Value) (w:World) (hB:B<=w.heap.size) (hT:Zhx w) (hv:Jj B w v xs) (g5:Jj B w v' ys) (hx:(xs.map Zo.id).Pairwise (·<·)) (hy:(ys.map Zo.id).Pairwise (·<·)) (hm:∀ n ∈ xs,∀ x ∈ n.props,Zas x.2) (g4:∀ n ∈ ys,∀ x ∈ n.props,Zas x.2) (hl:xs.length<=1000/\ys.length<=1000) :
  Calls Tryz.prog 55 #[v,v',.func (.func 56) #[] #[],.func (.func 48) #[] #[]] w fun e w'=>∃ gv pv,e=.returned (.tuple #[gv,pv])/\w'.ownsRow w.heap.size 2 1 gv (Jr Zo.id xs ys).length ((Jr Zo.id xs ys).map (.int .i64 ·))/\Jei 3 (Ja B w) (fun F=>w.heap.size<=F) w' pv (Zbu Zo.id Zbf xs ys)/\Below w.heap.size w w':=by
 have b7:Hid (Ag Zo.id Zbf 3 47 (Ja B w) (Jj B w) xs ys w v v' (.slice none 0 0) (.slice none 0 0) w):=⟨xs,ys,[],[],[],⟨hv,g5,fun _ h=>h,fun _ h=>h,hx,hy,rfl,rfl,by simp,by simp⟩,Below.refl _ _,World.ownsRow_nil _ _ _ _,Zh1,fun c hc=>by simp at hc,World.ownsRow_nil _ _ _ _⟩
 have j3:=Zb hT
 have e6:=Zb (And.intro hm g4)
 have HL:=Zb hl
 obtain ⟨sa,sc,rfl,_⟩:=hv
 obtain ⟨ta,tc,rfl,_⟩:=g5
 generalize h9:xs.length=n1 at b7 |-
 generalize i5:ys.length=n2 at b7 |-
 clear h9 i5 hx hy hm g4 hl hT
 go_enter Tryz.func55,Tryz.ntmps55
 go_wp2_with fail
 go_loopw [0,1,8,9] (fun a b g p wr=>Ag Zo.id Zbf 3 47 (Ja B w) (Jj B w) xs ys w a b g p wr) (fun a b _ _ _=>Zo2 a+Zo2 b)
 case atStart=>exact b7.out
 case round =>
  clear b7
  obtain ⟨es,bs,G,Q,des,⟨a8,Y,g3,e7,g7,e4,f3,e9,d8,c8⟩,d7,b9,f4,g6,b8⟩:=hrel
  have j0:=Zb a8
  have h8:=Zb Y
  obtain ⟨ga,gc,rfl⟩:=Jn b9
  obtain ⟨ua,uc,rfl⟩:=Jn b8
  obtain ⟨gl,c6⟩:∃ n,G.length=n:=⟨_,rfl⟩
  obtain ⟨ql,d6⟩:∃ n,Q.length=n:=⟨_,rfl⟩
  rw [c6] at b9 d8 |-
  rw [d6] at b8 c8 |-
  have M:Hid (Stg Zo.id Zbf 3 47 (Ja B w) xs ys w es bs G Q des (.slice ga gl gc) (.slice ua ql uc) gl ql wr):=⟨g3,e7,g7,e4,f3,e9,d8,c8,HL.out,d7,b9,f4,g6,b8,c6,d6⟩
  have f:=Zb d7
  clear f3 e9 d8 c8 d7 b9 f4 g6 b8 g3 e7 g7 e4 c6 d6
  cases es with
  | nil =>
   obtain ⟨xa,xc,rfl⟩:=Jjg a8
   cases bs with
   | nil =>
    obtain ⟨ya,yc,rfl⟩:=Jjg Y
    clear a8 Y
    go_wp2_with fail
    refine bodyPost_ret (v:=.tuple #[.slice ga gl gc,.slice ua ql uc]) (by simp [results,Tryz.results55,go_sem]) rfl ⟨_,_,rfl,?_,?_,f.out⟩
    ·rw [<- M.out.go,Zc1,List.append_nil,M.out.e1];exact M.out.ow
    ·rw [<- M.out.pu,Zdc,List.append_nil];exact Jej M.out.op M.out.cs M.out.on M.out.e2.symm
   | cons y s =>
    obtain ⟨a0,I,cb,nb,py,a4,a6,C,D,rfl,⟨g1,e5,f5⟩,i3,K,b2,U,g0⟩:=Jdp Y hB
    have i1:(nb:Int)>0:=by omega
    have d9:((nb:Int)==0)=false:=by simp;omega
    clear a8
    go_upto_region 5 with fail
    go_quiet (fail)
    generalize E:World.drewN _ _=W5
    have m:Hid (Below wr.heap.size wr W5):=by rw [<- E];exact Za (Below.refl _ _) (below_drewN _ _ _)
    clear E
    go_upto_region 8 with fail
    go_quiet (fail)
    generalize E:World.drewN _ _=W8
    have l:Hid (Below wr.heap.size wr W8):=by rw [<- E];exact Za m.out (below_drewN _ _ _)
    clear E
    obtain ⟨d0,d1,d2⟩:=K.out W8 (Za f.out l.out)
    obtain ⟨g9,c9,w9,r9,N⟩:=Zty (Lie:=Jj B w) Tryz.underlying22 Tryz.info47 rfl ⟨by decide,by decide,by decide⟩ M.out l.out (y:=y) (cs:=[.int .i64 y.id,.slice a4 y.labels.length a6,.slice C y.props.length D]) rfl (fun u hu=>by
     simp only [List.mem_cons,List.not_mem_nil,or_false] at hu
     rcases hu with rfl | rfl | rfl<;>rfl) b2.out
    have N:=Zb N
    go_wp2_with (at_builtin;refine Zp rfl _ _ 22 rfl rfl rfl r9 ?_)
    go_roundw
    case rel =>
     have d:=M.out
     exact N.out _ _ _ _ _ (Below.refl _ _) j0.out U.out (List.suffix_refl _) (List.suffix_cons _ _) (by rw [<- d.go,Zc1,Zc1]) (by rw [<- d.pu,Zk3,List.append_assoc];rfl) (by have:=d.l1;have:=d.e1;simp only [List.length_append,List.length_cons,List.length_nil] at *;omega) (by have:=d.l2;have:=d.e2;simp only [List.length_append,List.length_cons,List.length_nil] at *;omega)
    case measure=>simp [Zo2];omega
  | cons x r =>
   obtain ⟨F,off,ca,na,px,la,lc,R,O,rfl,⟨j7,j8,k0⟩,k5,T,i2,a3,i4⟩:=Jdp a8 hB
   have k4:(na:Int)>0:=by omega
   have f6:((na:Int)==0)=false:=by simp;omega
   cases bs with
   | nil =>
    obtain ⟨ya,yc,rfl⟩:=Jjg Y
    clear Y
    go_upto_region 5 with fail
    go_quiet (fail)
    generalize E:World.drewN _ _=W5
    have m:Hid (Below wr.heap.size wr W5):=by rw [<- E];exact Za (Below.refl _ _) (below_drewN _ _ _)
    clear E
    obtain ⟨c0,c1,c2⟩:=T.out W5 (Za f.out m.out)
    go_wp2_with fail
    refine (Zao x.id la x.labels.length lc R x.props.length O _).mono ?_
    rintro e W6 ⟨rfl,b4⟩
    have b1:Hid (Below wr.heap.size wr W6):=Za m.out b4
    clear b4 c0 c1 c2
    obtain ⟨g9,c9,w9,r9,N⟩:=Zse (Lie:=Jj B w) (by decide) M.out b1.out x.id
    have N:=Zb N
    go_wp2_with (at_builtin;refine Zp rfl _ _ 100 rfl rfl rfl r9 ?_)
    go_roundw
    case rel =>
     have d:=M.out
     exact N.out _ _ _ _ _ (Below.refl _ _) a3.out h8.out (List.suffix_cons _ _) (List.suffix_refl _) (by rw [<- d.go,Zk2,List.append_assoc];rfl) (by rw [<- d.pu,Zdc,Zdc]) (by have:=d.l1;have:=d.e1;simp only [List.length_append,List.length_cons,List.length_nil] at *;omega) (by have:=d.l2;have:=d.e2;simp only [List.length_append,List.length_cons,List.length_nil] at *;omega)
    case measure=>simp [Zo2];omega
   | cons y s =>
    obtain ⟨a0,I,cb,nb,py,a4,a6,C,D,rfl,⟨g1,e5,f5⟩,i3,K,b2,U,g0⟩:=Jdp Y hB
    have i1:(nb:Int)>0:=by omega
    have d9:((nb:Int)==0)=false:=by simp;omega
    have HK:=Zb (fun W (hb:Below wr.heap.size wr W)=>Zlw x y B _ _ W (by have:=hb.size;have:=f.out.size;omega) (j3.out.below (Za f.out hb)) (i2.out.below ((Za f.out hb).mono hB)) (b2.out.below ((Za f.out hb).mono hB)) (e6.out.1 _ (M.out.a1 _ List.mem_cons_self)) (e6.out.2 _ (M.out.a2 _ List.mem_cons_self)))
    by_cases hxy:x.id<y.id
    ·have b0:=decide_eq_true hxy
     go_upto_region 5 with fail
     show (Code.region 5 Je9 true).wp _ _ _ _
     refine Zkn F off na ca a0 I nb cb x.id y.id (.slice la x.labels.length lc) (.slice R x.props.length O) (.slice a4 y.labels.length a6) (.slice C y.props.length D) true _ _ _ rfl ⟨rfl,rfl,rfl⟩ ?_ ?_
     ·intro W H
      obtain ⟨q0,q1,q2⟩:=T.out W (Za f.out (Za (Below.refl _ _) H))
      obtain ⟨u0,u1,u2⟩:=K.out W (Za f.out (Za (Below.refl _ _) H))
      exact ⟨d9,by simp;omega,by omega,by omega,q0,q1,q2,(Zao x.id la x.labels.length lc R x.props.length O W),by omega,by omega,u0,u1,u2,(Zao y.id a4 y.labels.length a6 C y.props.length D W),b0⟩
     intro c W5 S A a9
     rw [Zj S [38,39,40,41,42,43,44,45,46,47,48,49,50,51,52,53,54,55,56,57,58,37] (by kernel_rfl)]
     simp only [List.foldl_cons,List.foldl_nil,List.setIfInBounds_toArray,List.set_cons_succ,List.set_cons_zero,show Zbd c 37=_ from a9]
     clear a9 S
     have m:Hid (Below wr.heap.size wr W5):=Za (Below.refl _ _) A
     clear A
     obtain ⟨c0,c1,c2⟩:=T.out W5 (Za f.out m.out)
     go_wp2_with fail
     refine (Zao x.id la x.labels.length lc R x.props.length O _).mono ?_
     rintro e W6 ⟨rfl,b4⟩
     have b1:Hid (Below wr.heap.size wr W6):=Za m.out b4
     clear b4 c0 c1 c2
     obtain ⟨g9,c9,w9,r9,N⟩:=Zse (Lie:=Jj B w) (by decide) M.out b1.out x.id
     have N:=Zb N
     go_wp2_with (at_builtin;refine Zp rfl _ _ 100 rfl rfl rfl r9 ?_)
     go_roundw
     case rel =>
      have d:=M.out
      exact N.out _ _ _ _ _ (Below.refl _ _) a3.out g0.out (List.suffix_cons _ _) (List.suffix_refl _) (by rw [<- d.go,Zr8 d.r2 hxy,List.append_assoc];rfl) (by rw [<- d.pu,Zyc d.r2 hxy]) (by have:=d.l1;have:=d.e1;simp only [List.length_append,List.length_cons,List.length_nil] at *;omega) (by have:=d.l2;have:=d.e2;simp only [List.length_append,List.length_cons,List.length_nil] at *;omega)
     case measure=>simp [Zo2];omega
    ·have b0:=decide_eq_false hxy
     go_upto_region 5 with fail
     show (Code.region 5 Je9 true).wp _ _ _ _
     refine Zkn F off na ca a0 I nb cb x.id y.id (.slice la x.labels.length lc) (.slice R x.props.length O) (.slice a4 y.labels.length a6) (.slice C y.props.length D) false _ _ _ rfl ⟨rfl,rfl,rfl⟩ ?_ ?_
     ·intro W H
      obtain ⟨q0,q1,q2⟩:=T.out W (Za f.out (Za (Below.refl _ _) H))
      obtain ⟨u0,u1,u2⟩:=K.out W (Za f.out (Za (Below.refl _ _) H))
      exact ⟨d9,by simp;omega,by omega,by omega,q0,q1,q2,(Zao x.id la x.labels.length lc R x.props.length O W),by omega,by omega,u0,u1,u2,(Zao y.id a4 y.labels.length a6 C y.props.length D W),b0⟩
     intro c W5 S A a9
     rw [Zj S [38,39,40,41,42,43,44,45,46,47,48,49,50,51,52,53,54,55,56,57,58,37] (by kernel_rfl)]
     simp only [List.foldl_cons,List.foldl_nil,List.setIfInBounds_toArray,List.set_cons_succ,List.set_cons_zero,show Zbd c 37=_ from a9]
     clear a9 S
     have m:Hid (Below wr.heap.size wr W5):=Za (Below.refl _ _) A
     clear A
     by_cases hyx:y.id<x.id
     ·have b5:=decide_eq_true hyx
      go_upto_region 8 with fail
      show (Code.region 8 Jfb true).wp _ _ _ _
      refine Zko F off na ca a0 I nb cb x.id y.id (.slice la x.labels.length lc) (.slice R x.props.length O) (.slice a4 y.labels.length a6) (.slice C y.props.length D) true _ _ _ rfl ⟨rfl,rfl,rfl⟩ ?_ ?_
      ·intro W H
       obtain ⟨q0,q1,q2⟩:=T.out W (Za f.out (Za m.out H))
       obtain ⟨u0,u1,u2⟩:=K.out W (Za f.out (Za m.out H))
       exact ⟨f6,by omega,by omega,u0,u1,u2,(Zao y.id a4 y.labels.length a6 C y.props.length D W),by omega,by omega,q0,q1,q2,(Zao x.id la x.labels.length lc R x.props.length O W),b5⟩
      intro c W8 S A b3
      rw [Zj S [70,71,72,73,74,75,76,77,78,79,80,81,82,83,84,85,69] (by kernel_rfl)]
      simp only [List.foldl_cons,List.foldl_nil,List.setIfInBounds_toArray,List.set_cons_succ,List.set_cons_zero,show Zbd c 69=_ from b3]
      clear b3 S
      have l:Hid (Below wr.heap.size wr W8):=Za m.out A
      clear A
      obtain ⟨d0,d1,d2⟩:=K.out W8 (Za f.out l.out)
      obtain ⟨g9,c9,w9,r9,N⟩:=Zty (Lie:=Jj B w) Tryz.underlying22 Tryz.info47 rfl ⟨by decide,by decide,by decide⟩ M.out l.out (y:=y) (cs:=[.int .i64 y.id,.slice a4 y.labels.length a6,.slice C y.props.length D]) rfl (fun u hu=>by
       simp only [List.mem_cons,List.not_mem_nil,or_false] at hu
       rcases hu with rfl | rfl | rfl<;>rfl) b2.out
      have N:=Zb N
      go_wp2_with (at_builtin;refine Zp rfl _ _ 22 rfl rfl rfl r9 ?_)
      go_roundw
      case rel =>
       have d:=M.out
       exact N.out _ _ _ _ _ (Below.refl _ _) i4.out U.out (List.suffix_refl _) (List.suffix_cons _ _) (by rw [<- d.go,Zr9 d.r1 hyx]) (by rw [<- d.pu,Zyd d.r1 hyx,List.append_assoc];rfl) (by have:=d.l1;have:=d.e1;simp only [List.length_append,List.length_cons,List.length_nil] at *;omega) (by have:=d.l2;have:=d.e2;simp only [List.length_append,List.length_cons,List.length_nil] at *;omega)
      case measure=>simp [Zo2];omega
     ·have b5:=decide_eq_false hyx
      have f2:x.id=y.id:=by omega
      have b6:=Zb f2
      clear f2
      go_upto_region 8 with fail
      show (Code.region 8 Jfb true).wp _ _ _ _
      refine Zko F off na ca a0 I nb cb x.id y.id (.slice la x.labels.length lc) (.slice R x.props.length O) (.slice a4 y.labels.length a6) (.slice C y.props.length D) false _ _ _ rfl ⟨rfl,rfl,rfl⟩ ?_ ?_
      ·intro W H
       obtain ⟨q0,q1,q2⟩:=T.out W (Za f.out (Za m.out H))
       obtain ⟨u0,u1,u2⟩:=K.out W (Za f.out (Za m.out H))
       exact ⟨f6,by omega,by omega,u0,u1,u2,(Zao y.id a4 y.labels.length a6 C y.props.length D W),by omega,by omega,q0,q1,q2,(Zao x.id la x.labels.length lc R x.props.length O W),b5⟩
      intro c W8 S A b3
      rw [Zj S [70,71,72,73,74,75,76,77,78,79,80,81,82,83,84,85,69] (by kernel_rfl)]
      simp only [List.foldl_cons,List.foldl_nil,List.setIfInBounds_toArray,List.set_cons_succ,List.set_cons_zero,show Zbd c 69=_ from b3]
      clear b3 S
      have l:Hid (Below wr.heap.size wr W8):=Za m.out A
      clear A
      obtain ⟨sb,c5⟩:∃ b,Zbf x y=b:=⟨_,rfl⟩
      rw [c5] at HK
      have f8:=Zb c5
      clear c5
      cases sb with
      | true =>
       go_upto_region 2 with fail
       show (Code.region 2 Jfd true).wp _ _ _ _
       refine Zkp F off na ca a0 I nb cb x.id y.id (.slice la x.labels.length lc) (.slice R x.props.length O) (.slice a4 y.labels.length a6) (.slice C y.props.length D) true _ _ _ rfl ⟨rfl,rfl,rfl⟩ ?_ ?_
       ·intro W H
        obtain ⟨q0,q1,q2⟩:=T.out W (Za f.out (Za l.out H))
        obtain ⟨u0,u1,u2⟩:=K.out W (Za f.out (Za l.out H))
        exact ⟨by omega,by omega,q0,q1,q2,by omega,by omega,u0,u1,u2,HK.out W (Za l.out H)⟩
       intro c W2 S A V
       simp only [Bool.not_true,Bool.not_false] at V
       rw [Zj S [18,19,20,21,22,23,24,25,26] (by kernel_rfl)]
       simp only [List.foldl_cons,List.foldl_nil,List.setIfInBounds_toArray,List.set_cons_succ,List.set_cons_zero,show Zbd c 26=_ from V]
       clear V S
       have a5:Hid (Below wr.heap.size wr W2):=Za l.out A
       clear A
       go_upto_region 4 with fail
       go_quiet (fail)
       generalize E:World.drewN _ _=W4
       have g2:Hid (Below wr.heap.size wr W4):=by rw [<- E];exact Za a5.out (below_drewN _ _ _)
       clear E
       go_wp2_with fail
       go_roundw
       case rel =>
        have d:=M.out
        exact Jhx (Lie:=Jj B w) d.a1 d.a2 d.r1 d.r2 d.br (by rw [d.e1];exact d.ow) d.cs d.on (by rw [d.e2];exact d.op) _ _ _ _ _ g2.out a3.out U.out (List.suffix_cons _ _) (List.suffix_cons _ _) (by rw [<- d.go,Zhz d.r1 b6.out]) (by rw [<- d.pu,Zmj d.r1 d.r2 b6.out,if_pos f8.out]) (by have:=d.l1;have:=d.e1;simp only [List.length_cons] at *;omega) (by have:=d.l2;have:=d.e2;simp only [List.length_cons] at *;omega)
       case measure=>simp [Zo2];omega
      | false =>
       go_upto_region 2 with fail
       show (Code.region 2 Jfd true).wp _ _ _ _
       refine Zkp F off na ca a0 I nb cb x.id y.id (.slice la x.labels.length lc) (.slice R x.props.length O) (.slice a4 y.labels.length a6) (.slice C y.props.length D) false _ _ _ rfl ⟨rfl,rfl,rfl⟩ ?_ ?_
       ·intro W H
        obtain ⟨q0,q1,q2⟩:=T.out W (Za f.out (Za l.out H))
        obtain ⟨u0,u1,u2⟩:=K.out W (Za f.out (Za l.out H))
        exact ⟨by omega,by omega,q0,q1,q2,by omega,by omega,u0,u1,u2,HK.out W (Za l.out H)⟩
       intro c W2 S A V
       simp only [Bool.not_true,Bool.not_false] at V
       rw [Zj S [18,19,20,21,22,23,24,25,26] (by kernel_rfl)]
       simp only [List.foldl_cons,List.foldl_nil,List.setIfInBounds_toArray,List.set_cons_succ,List.set_cons_zero,show Zbd c 26=_ from V]
       clear V S
       have a5:Hid (Below wr.heap.size wr W2):=Za l.out A
       clear A
       obtain ⟨d0,d1,d2⟩:=K.out W2 (Za f.out a5.out)
       obtain ⟨g9,c9,w9,r9,N⟩:=Zty (Lie:=Jj B w) Tryz.underlying22 Tryz.info47 rfl ⟨by decide,by decide,by decide⟩ M.out a5.out (y:=y) (cs:=[.int .i64 y.id,.slice a4 y.labels.length a6,.slice C y.props.length D]) rfl (fun u hu=>by
        simp only [List.mem_cons,List.not_mem_nil,or_false] at hu
        rcases hu with rfl | rfl | rfl<;>rfl) b2.out
       have N:=Zb N
       go_upto_region 4 with (at_builtin;refine Zp rfl _ _ 22 rfl rfl rfl r9 ?_)
       go_quiet (fail)
       generalize E:World.drewN _ _=W4
       have i9:Hid (Below w9.heap.size w9 W4):=by rw [<- E];exact below_drewN _ _ _
       clear E
       go_wp2_with fail
       go_roundw
       case rel =>
        have d:=M.out
        exact N.out _ _ _ _ _ i9.out a3.out U.out (List.suffix_cons _ _) (List.suffix_cons _ _) (by rw [<- d.go,Zhz d.r1 b6.out]) (by rw [<- d.pu,Zmj d.r1 d.r2 b6.out,if_neg (by rw [f8.out];simp),List.append_assoc];rfl) (by have:=d.l1;have:=d.e1;simp only [List.length_append,List.length_cons,List.length_nil] at *;omega) (by have:=d.l2;have:=d.e2;simp only [List.length_append,List.length_cons,List.length_nil] at *;omega)
       case measure=>simp [Zo2];omega
theorem Jdq {B:Nat} {w:World} {v:Value} {x:Jg} {r:List Jg} (h:Jt B w v (x::r)) (hB:B<=w.heap.size):∃ F off c n pv R O,v=.slice (some ⟨F,off,none⟩) n c/\(n<=c/\c<=9223372036854775807/\0<n)/\(if c=1 then some ⟨F,off,none⟩ else some ⟨F,off+5,none⟩:Option Addr)=pv/\Hid (∀ W,Below w.heap.size w W->W.cell? ⟨F,off,none⟩=some (.int .i64 x.id)/\W.cell? ⟨F,off+1,none⟩=some (.int .i64 x.fr)/\W.cell? ⟨F,off+2,none⟩=some (.int .i64 x.tt)/\W.cell? ⟨F,off+3,none⟩=some (.string x.type)/\W.cell? ⟨F,off+4,none⟩=some (.slice R x.props.length O))/\Hid (Ji B w (.agg #[.int .i64 x.id,.int .i64 x.fr,.int .i64 x.tt,.string x.type,.slice R x.props.length O]) x)/\Hid (Jt B w (.slice pv (n - 1) (c - 1)) r)/\Hid (Jt B w (.slice (some ⟨F,off,none⟩) n c) (x::r)):=by
 have HV:=h
 obtain ⟨a,c,e,h0,h1,h2⟩:=h
 obtain ⟨F,off,rfl,hb,hc⟩:=h2.resolve_left (by simp)
 have h2:=hc 0 x rfl
 rw [Nat.zero_mul,Nat.add_zero] at h2
 subst e
 obtain ⟨pv,e0,d,hp⟩:=h2
 obtain ⟨R,O,rfl⟩:=Zau hp
 refine ⟨F,off,c,_,_,R,O,rfl,⟨h0,h1,Nat.succ_pos _⟩,rfl,?_,⟨R,O,rfl,hp⟩,?_,HV⟩
 ·intro W H
  have kk:∀ o,W.cell? ⟨F,o,none⟩=w.cell? ⟨F,o,none⟩:=fun o=>H.cell (p:=⟨F,o,none⟩) (by show F<_;omega)
  simp only [kk];exact e0
 refine ⟨_,c - 1,rfl,by rw [List.length_cons] at h0;omega,by omega,?_⟩
 cases r with
 | nil=>exact .inl rfl
 | cons y s =>
  have j1:c≠1:=by rw [List.length_cons,List.length_cons] at h0;omega
  rw [if_neg j1]
  refine .inr ⟨F,off+5,rfl,hb,fun i n hn=>?_⟩
  have:=hc (i+1) n (by simpa using hn)
  rwa [Nat.add_mul,Nat.one_mul,Nat.add_comm (i*5) 5,<- Nat.add_assoc] at this
theorem Jjh {B:Nat} {w:World} {v:Value} (h:Jt B w v []):∃ a c,v=.slice a 0 c:=by
 obtain ⟨a,c,e,_⟩:=h
 exact ⟨a,c,e⟩
theorem Jbg (xs ys:List Jg) (B:Nat) (v v':Value) (w:World) (hB:B<=w.heap.size) (hT:Zhx w) (hv:Jt B w v xs) (g5:Jt B w v' ys) (hx:(xs.map Jg.id).Pairwise (·<·)) (hy:(ys.map Jg.id).Pairwise (·<·)) (hm:∀ n ∈ xs,∀ x ∈ n.props,Zas x.2) (g4:∀ n ∈ ys,∀ x ∈ n.props,Zas x.2) (hl:xs.length<=1000/\ys.length<=1000) :
  Calls Tryz.prog 53 #[v,v',.func (.func 54) #[] #[],.func (.func 50) #[] #[]] w fun e w'=>∃ gv pv,e=.returned (.tuple #[gv,pv])/\w'.ownsRow w.heap.size 2 1 gv (Jr Jg.id xs ys).length ((Jr Jg.id xs ys).map (.int .i64 ·))/\Jei 5 (Ji B w) (fun F=>w.heap.size<=F) w' pv (Zbu Jg.id Zby xs ys)/\Below w.heap.size w w':=by
 have b7:Hid (Ag Jg.id Zby 5 49 (Ji B w) (Jt B w) xs ys w v v' (.slice none 0 0) (.slice none 0 0) w):=⟨xs,ys,[],[],[],⟨hv,g5,fun _ h=>h,fun _ h=>h,hx,hy,rfl,rfl,by simp,by simp⟩,Below.refl _ _,World.ownsRow_nil _ _ _ _,Zh1,fun c hc=>by simp at hc,World.ownsRow_nil _ _ _ _⟩
 have j3:=Zb hT
 have e6:=Zb (And.intro hm g4)
 have HL:=Zb hl
 obtain ⟨sa,sc,rfl,_⟩:=hv
 obtain ⟨ta,tc,rfl,_⟩:=g5
 generalize h9:xs.length=n1 at b7 |-
 generalize i5:ys.length=n2 at b7 |-
 clear h9 i5 hx hy hm g4 hl hT
 go_enter Tryz.func53,Tryz.ntmps53
 go_wp2_with fail
 go_loopw [0,1,8,9] (fun a b g p wr=>Ag Jg.id Zby 5 49 (Ji B w) (Jt B w) xs ys w a b g p wr) (fun a b _ _ _=>Zo2 a+Zo2 b)
 case atStart=>exact b7.out
 case round =>
  clear b7
  obtain ⟨es,bs,G,Q,des,⟨a8,Y,g3,e7,g7,e4,f3,e9,d8,c8⟩,d7,b9,f4,g6,b8⟩:=hrel
  have j0:=Zb a8
  have h8:=Zb Y
  obtain ⟨ga,gc,rfl⟩:=Jn b9
  obtain ⟨ua,uc,rfl⟩:=Jn b8
  obtain ⟨gl,c6⟩:∃ n,G.length=n:=⟨_,rfl⟩
  obtain ⟨ql,d6⟩:∃ n,Q.length=n:=⟨_,rfl⟩
  rw [c6] at b9 d8 |-
  rw [d6] at b8 c8 |-
  have M:Hid (Stg Jg.id Zby 5 49 (Ji B w) xs ys w es bs G Q des (.slice ga gl gc) (.slice ua ql uc) gl ql wr):=⟨g3,e7,g7,e4,f3,e9,d8,c8,HL.out,d7,b9,f4,g6,b8,c6,d6⟩
  have f:=Zb d7
  clear f3 e9 d8 c8 d7 b9 f4 g6 b8 g3 e7 g7 e4 c6 d6
  cases es with
  | nil =>
   obtain ⟨xa,xc,rfl⟩:=Jjh a8
   cases bs with
   | nil =>
    obtain ⟨ya,yc,rfl⟩:=Jjh Y
    clear a8 Y
    go_wp2_with fail
    refine bodyPost_ret (v:=.tuple #[.slice ga gl gc,.slice ua ql uc]) (by simp [results,Tryz.results53,go_sem]) rfl ⟨_,_,rfl,?_,?_,f.out⟩
    ·rw [<- M.out.go,Zc1,List.append_nil,M.out.e1];exact M.out.ow
    ·rw [<- M.out.pu,Zdc,List.append_nil];exact Jej M.out.op M.out.cs M.out.on M.out.e2.symm
   | cons y s =>
    obtain ⟨a0,I,cb,nb,py,C,D,rfl,⟨g1,e5,f5⟩,i3,K,b2,U,g0⟩:=Jdq Y hB
    have i1:(nb:Int)>0:=by omega
    have d9:((nb:Int)==0)=false:=by simp;omega
    clear a8
    go_upto_region 5 with fail
    go_quiet (fail)
    generalize E:World.drewN _ _=W5
    have m:Hid (Below wr.heap.size wr W5):=by rw [<- E];exact Za (Below.refl _ _) (below_drewN _ _ _)
    clear E
    go_upto_region 8 with fail
    go_quiet (fail)
    generalize E:World.drewN _ _=W8
    have l:Hid (Below wr.heap.size wr W8):=by rw [<- E];exact Za m.out (below_drewN _ _ _)
    clear E
    obtain ⟨d0,d1,d2,d3,d4⟩:=K.out W8 (Za f.out l.out)
    obtain ⟨g9,c9,w9,r9,N⟩:=Zty (Lie:=Jt B w) Tryz.underlying23 Tryz.info49 rfl ⟨by decide,by decide,by decide⟩ M.out l.out (y:=y) (cs:=[.int .i64 y.id,.int .i64 y.fr,.int .i64 y.tt,.string y.type,.slice C y.props.length D]) rfl (fun u hu=>by
     simp only [List.mem_cons,List.not_mem_nil,or_false] at hu
     rcases hu with rfl | rfl | rfl | rfl | rfl<;>rfl) b2.out
    have N:=Zb N
    go_wp2_with (at_builtin;refine Zp rfl _ _ 23 rfl rfl rfl r9 ?_)
    go_roundw
    case rel =>
     have d:=M.out
     exact N.out _ _ _ _ _ (Below.refl _ _) j0.out U.out (List.suffix_refl _) (List.suffix_cons _ _) (by rw [<- d.go,Zc1,Zc1]) (by rw [<- d.pu,Zk3,List.append_assoc];rfl) (by have:=d.l1;have:=d.e1;simp only [List.length_append,List.length_cons,List.length_nil] at *;omega) (by have:=d.l2;have:=d.e2;simp only [List.length_append,List.length_cons,List.length_nil] at *;omega)
    case measure=>simp [Zo2];omega
  | cons x r =>
   obtain ⟨F,off,ca,na,px,R,O,rfl,⟨j7,j8,k0⟩,k5,T,i2,a3,i4⟩:=Jdq a8 hB
   have k4:(na:Int)>0:=by omega
   have f6:((na:Int)==0)=false:=by simp;omega
   cases bs with
   | nil =>
    obtain ⟨ya,yc,rfl⟩:=Jjh Y
    clear Y
    go_upto_region 5 with fail
    go_quiet (fail)
    generalize E:World.drewN _ _=W5
    have m:Hid (Below wr.heap.size wr W5):=by rw [<- E];exact Za (Below.refl _ _) (below_drewN _ _ _)
    clear E
    obtain ⟨c0,c1,c2,c3,c4⟩:=T.out W5 (Za f.out m.out)
    go_wp2_with fail
    refine (Za1 x.id x.fr x.tt x.type R x.props.length O _).mono ?_
    rintro e W6 ⟨rfl,b4⟩
    have b1:Hid (Below wr.heap.size wr W6):=Za m.out b4
    clear b4 c0 c1 c2 c3 c4
    obtain ⟨g9,c9,w9,r9,N⟩:=Zse (Lie:=Jt B w) (by decide) M.out b1.out x.id
    have N:=Zb N
    go_wp2_with (at_builtin;refine Zp rfl _ _ 100 rfl rfl rfl r9 ?_)
    go_roundw
    case rel =>
     have d:=M.out
     exact N.out _ _ _ _ _ (Below.refl _ _) a3.out h8.out (List.suffix_cons _ _) (List.suffix_refl _) (by rw [<- d.go,Zk2,List.append_assoc];rfl) (by rw [<- d.pu,Zdc,Zdc]) (by have:=d.l1;have:=d.e1;simp only [List.length_append,List.length_cons,List.length_nil] at *;omega) (by have:=d.l2;have:=d.e2;simp only [List.length_append,List.length_cons,List.length_nil] at *;omega)
    case measure=>simp [Zo2];omega
   | cons y s =>
    obtain ⟨a0,I,cb,nb,py,C,D,rfl,⟨g1,e5,f5⟩,i3,K,b2,U,g0⟩:=Jdq Y hB
    have i1:(nb:Int)>0:=by omega
    have d9:((nb:Int)==0)=false:=by simp;omega
    have HK:=Zb (fun W (hb:Below wr.heap.size wr W)=>Zns x y B _ _ W (by have:=hb.size;have:=f.out.size;omega) (j3.out.below (Za f.out hb)) (i2.out.below ((Za f.out hb).mono hB)) (b2.out.below ((Za f.out hb).mono hB)) (e6.out.1 _ (M.out.a1 _ List.mem_cons_self)) (e6.out.2 _ (M.out.a2 _ List.mem_cons_self)))
    by_cases hxy:x.id<y.id
    ·have b0:=decide_eq_true hxy
     go_upto_region 5 with fail
     show (Code.region 5 Jff true).wp _ _ _ _
     refine Zkq F off na ca a0 I nb cb x.id y.id (.int .i64 x.fr) (.int .i64 x.tt) (.string x.type) (.slice R x.props.length O) (.int .i64 y.fr) (.int .i64 y.tt) (.string y.type) (.slice C y.props.length D) true _ _ _ rfl ⟨rfl,rfl,rfl⟩ ?_ ?_
     ·intro W H
      obtain ⟨q0,q1,q2,q3,q4⟩:=T.out W (Za f.out (Za (Below.refl _ _) H))
      obtain ⟨u0,u1,u2,u3,u4⟩:=K.out W (Za f.out (Za (Below.refl _ _) H))
      exact ⟨d9,by simp;omega,by omega,by omega,q0,q1,q2,q3,q4,(Za1 x.id x.fr x.tt x.type R x.props.length O W),by omega,by omega,u0,u1,u2,u3,u4,(Za1 y.id y.fr y.tt y.type C y.props.length D W),b0⟩
     intro c W5 S A a9
     rw [Zj S [38,39,40,41,42,43,44,45,46,47,48,49,50,51,52,53,54,55,56,57,58,37] (by kernel_rfl)]
     simp only [List.foldl_cons,List.foldl_nil,List.setIfInBounds_toArray,List.set_cons_succ,List.set_cons_zero,show Zbd c 37=_ from a9]
     clear a9 S
     have m:Hid (Below wr.heap.size wr W5):=Za (Below.refl _ _) A
     clear A
     obtain ⟨c0,c1,c2,c3,c4⟩:=T.out W5 (Za f.out m.out)
     go_wp2_with fail
     refine (Za1 x.id x.fr x.tt x.type R x.props.length O _).mono ?_
     rintro e W6 ⟨rfl,b4⟩
     have b1:Hid (Below wr.heap.size wr W6):=Za m.out b4
     clear b4 c0 c1 c2 c3 c4
     obtain ⟨g9,c9,w9,r9,N⟩:=Zse (Lie:=Jt B w) (by decide) M.out b1.out x.id
     have N:=Zb N
     go_wp2_with (at_builtin;refine Zp rfl _ _ 100 rfl rfl rfl r9 ?_)
     go_roundw
     case rel =>
      have d:=M.out
      exact N.out _ _ _ _ _ (Below.refl _ _) a3.out g0.out (List.suffix_cons _ _) (List.suffix_refl _) (by rw [<- d.go,Zr8 d.r2 hxy,List.append_assoc];rfl) (by rw [<- d.pu,Zyc d.r2 hxy]) (by have:=d.l1;have:=d.e1;simp only [List.length_append,List.length_cons,List.length_nil] at *;omega) (by have:=d.l2;have:=d.e2;simp only [List.length_append,List.length_cons,List.length_nil] at *;omega)
     case measure=>simp [Zo2];omega
    ·have b0:=decide_eq_false hxy
     go_upto_region 5 with fail
     show (Code.region 5 Jff true).wp _ _ _ _
     refine Zkq F off na ca a0 I nb cb x.id y.id (.int .i64 x.fr) (.int .i64 x.tt) (.string x.type) (.slice R x.props.length O) (.int .i64 y.fr) (.int .i64 y.tt) (.string y.type) (.slice C y.props.length D) false _ _ _ rfl ⟨rfl,rfl,rfl⟩ ?_ ?_
     ·intro W H
      obtain ⟨q0,q1,q2,q3,q4⟩:=T.out W (Za f.out (Za (Below.refl _ _) H))
      obtain ⟨u0,u1,u2,u3,u4⟩:=K.out W (Za f.out (Za (Below.refl _ _) H))
      exact ⟨d9,by simp;omega,by omega,by omega,q0,q1,q2,q3,q4,(Za1 x.id x.fr x.tt x.type R x.props.length O W),by omega,by omega,u0,u1,u2,u3,u4,(Za1 y.id y.fr y.tt y.type C y.props.length D W),b0⟩
     intro c W5 S A a9
     rw [Zj S [38,39,40,41,42,43,44,45,46,47,48,49,50,51,52,53,54,55,56,57,58,37] (by kernel_rfl)]
     simp only [List.foldl_cons,List.foldl_nil,List.setIfInBounds_toArray,List.set_cons_succ,List.set_cons_zero,show Zbd c 37=_ from a9]
     clear a9 S
     have m:Hid (Below wr.heap.size wr W5):=Za (Below.refl _ _) A
     clear A
     by_cases hyx:y.id<x.id
     ·have b5:=decide_eq_true hyx
      go_upto_region 8 with fail
      show (Code.region 8 Jfh true).wp _ _ _ _
      refine Zkr F off na ca a0 I nb cb x.id y.id (.int .i64 x.fr) (.int .i64 x.tt) (.string x.type) (.slice R x.props.length O) (.int .i64 y.fr) (.int .i64 y.tt) (.string y.type) (.slice C y.props.length D) true _ _ _ rfl ⟨rfl,rfl,rfl⟩ ?_ ?_
      ·intro W H
       obtain ⟨q0,q1,q2,q3,q4⟩:=T.out W (Za f.out (Za m.out H))
       obtain ⟨u0,u1,u2,u3,u4⟩:=K.out W (Za f.out (Za m.out H))
       exact ⟨f6,by omega,by omega,u0,u1,u2,u3,u4,(Za1 y.id y.fr y.tt y.type C y.props.length D W),by omega,by omega,q0,q1,q2,q3,q4,(Za1 x.id x.fr x.tt x.type R x.props.length O W),b5⟩
      intro c W8 S A b3
      rw [Zj S [70,71,72,73,74,75,76,77,78,79,80,81,82,83,84,85,69] (by kernel_rfl)]
      simp only [List.foldl_cons,List.foldl_nil,List.setIfInBounds_toArray,List.set_cons_succ,List.set_cons_zero,show Zbd c 69=_ from b3]
      clear b3 S
      have l:Hid (Below wr.heap.size wr W8):=Za m.out A
      clear A
      obtain ⟨d0,d1,d2,d3,d4⟩:=K.out W8 (Za f.out l.out)
      obtain ⟨g9,c9,w9,r9,N⟩:=Zty (Lie:=Jt B w) Tryz.underlying23 Tryz.info49 rfl ⟨by decide,by decide,by decide⟩ M.out l.out (y:=y) (cs:=[.int .i64 y.id,.int .i64 y.fr,.int .i64 y.tt,.string y.type,.slice C y.props.length D]) rfl (fun u hu=>by
       simp only [List.mem_cons,List.not_mem_nil,or_false] at hu
       rcases hu with rfl | rfl | rfl | rfl | rfl<;>rfl) b2.out
      have N:=Zb N
      go_wp2_with (at_builtin;refine Zp rfl _ _ 23 rfl rfl rfl r9 ?_)
      go_roundw
      case rel =>
       have d:=M.out
       exact N.out _ _ _ _ _ (Below.refl _ _) i4.out U.out (List.suffix_refl _) (List.suffix_cons _ _) (by rw [<- d.go,Zr9 d.r1 hyx]) (by rw [<- d.pu,Zyd d.r1 hyx,List.append_assoc];rfl) (by have:=d.l1;have:=d.e1;simp only [List.length_append,List.length_cons,List.length_nil] at *;omega) (by have:=d.l2;have:=d.e2;simp only [List.length_append,List.length_cons,List.length_nil] at *;omega)
      case measure=>simp [Zo2];omega
     ·have b5:=decide_eq_false hyx
      have f2:x.id=y.id:=by omega
      have b6:=Zb f2
      clear f2
      go_upto_region 8 with fail
      show (Code.region 8 Jfh true).wp _ _ _ _
      refine Zkr F off na ca a0 I nb cb x.id y.id (.int .i64 x.fr) (.int .i64 x.tt) (.string x.type) (.slice R x.props.length O) (.int .i64 y.fr) (.int .i64 y.tt) (.string y.type) (.slice C y.props.length D) false _ _ _ rfl ⟨rfl,rfl,rfl⟩ ?_ ?_
      ·intro W H
       obtain ⟨q0,q1,q2,q3,q4⟩:=T.out W (Za f.out (Za m.out H))
       obtain ⟨u0,u1,u2,u3,u4⟩:=K.out W (Za f.out (Za m.out H))
       exact ⟨f6,by omega,by omega,u0,u1,u2,u3,u4,(Za1 y.id y.fr y.tt y.type C y.props.length D W),by omega,by omega,q0,q1,q2,q3,q4,(Za1 x.id x.fr x.tt x.type R x.props.length O W),b5⟩
      intro c W8 S A b3
      rw [Zj S [70,71,72,73,74,75,76,77,78,79,80,81,82,83,84,85,69] (by kernel_rfl)]
      simp only [List.foldl_cons,List.foldl_nil,List.setIfInBounds_toArray,List.set_cons_succ,List.set_cons_zero,show Zbd c 69=_ from b3]
      clear b3 S
      have l:Hid (Below wr.heap.size wr W8):=Za m.out A
      clear A
      obtain ⟨sb,c5⟩:∃ b,Zby x y=b:=⟨_,rfl⟩
      rw [c5] at HK
      have f8:=Zb c5
      clear c5
      cases sb with
      | true =>
       go_upto_region 2 with fail
       show (Code.region 2 Jfj true).wp _ _ _ _
       refine Zks F off na ca a0 I nb cb x.id y.id (.int .i64 x.fr) (.int .i64 x.tt) (.string x.type) (.slice R x.props.length O) (.int .i64 y.fr) (.int .i64 y.tt) (.string y.type) (.slice C y.props.length D) true _ _ _ rfl ⟨rfl,rfl,rfl⟩ ?_ ?_
       ·intro W H
        obtain ⟨q0,q1,q2,q3,q4⟩:=T.out W (Za f.out (Za l.out H))
        obtain ⟨u0,u1,u2,u3,u4⟩:=K.out W (Za f.out (Za l.out H))
        exact ⟨by omega,by omega,q0,q1,q2,q3,q4,by omega,by omega,u0,u1,u2,u3,u4,HK.out W (Za l.out H)⟩
       intro c W2 S A V
       simp only [Bool.not_true,Bool.not_false] at V
       rw [Zj S [18,19,20,21,22,23,24,25,26] (by kernel_rfl)]
       simp only [List.foldl_cons,List.foldl_nil,List.setIfInBounds_toArray,List.set_cons_succ,List.set_cons_zero,show Zbd c 26=_ from V]
       clear V S
       have a5:Hid (Below wr.heap.size wr W2):=Za l.out A
       clear A
       go_upto_region 4 with fail
       go_quiet (fail)
       generalize E:World.drewN _ _=W4
       have g2:Hid (Below wr.heap.size wr W4):=by rw [<- E];exact Za a5.out (below_drewN _ _ _)
       clear E
       go_wp2_with fail
       go_roundw
       case rel =>
        have d:=M.out
        exact Jhx (Lie:=Jt B w) d.a1 d.a2 d.r1 d.r2 d.br (by rw [d.e1];exact d.ow) d.cs d.on (by rw [d.e2];exact d.op) _ _ _ _ _ g2.out a3.out U.out (List.suffix_cons _ _) (List.suffix_cons _ _) (by rw [<- d.go,Zhz d.r1 b6.out]) (by rw [<- d.pu,Zmj d.r1 d.r2 b6.out,if_pos f8.out]) (by have:=d.l1;have:=d.e1;simp only [List.length_cons] at *;omega) (by have:=d.l2;have:=d.e2;simp only [List.length_cons] at *;omega)
       case measure=>simp [Zo2];omega
      | false =>
       go_upto_region 2 with fail
       show (Code.region 2 Jfj true).wp _ _ _ _
       refine Zks F off na ca a0 I nb cb x.id y.id (.int .i64 x.fr) (.int .i64 x.tt) (.string x.type) (.slice R x.props.length O) (.int .i64 y.fr) (.int .i64 y.tt) (.string y.type) (.slice C y.props.length D) false _ _ _ rfl ⟨rfl,rfl,rfl⟩ ?_ ?_
       ·intro W H
        obtain ⟨q0,q1,q2,q3,q4⟩:=T.out W (Za f.out (Za l.out H))
        obtain ⟨u0,u1,u2,u3,u4⟩:=K.out W (Za f.out (Za l.out H))
        exact ⟨by omega,by omega,q0,q1,q2,q3,q4,by omega,by omega,u0,u1,u2,u3,u4,HK.out W (Za l.out H)⟩
       intro c W2 S A V
       simp only [Bool.not_true,Bool.not_false] at V
       rw [Zj S [18,19,20,21,22,23,24,25,26] (by kernel_rfl)]
       simp only [List.foldl_cons,List.foldl_nil,List.setIfInBounds_toArray,List.set_cons_succ,List.set_cons_zero,show Zbd c 26=_ from V]
       clear V S
       have a5:Hid (Below wr.heap.size wr W2):=Za l.out A
       clear A
       obtain ⟨d0,d1,d2,d3,d4⟩:=K.out W2 (Za f.out a5.out)
       obtain ⟨g9,c9,w9,r9,N⟩:=Zty (Lie:=Jt B w) Tryz.underlying23 Tryz.info49 rfl ⟨by decide,by decide,by decide⟩ M.out a5.out (y:=y) (cs:=[.int .i64 y.id,.int .i64 y.fr,.int .i64 y.tt,.string y.type,.slice C y.props.length D]) rfl (fun u hu=>by
        simp only [List.mem_cons,List.not_mem_nil,or_false] at hu
        rcases hu with rfl | rfl | rfl | rfl | rfl<;>rfl) b2.out
       have N:=Zb N
       go_upto_region 4 with (at_builtin;refine Zp rfl _ _ 23 rfl rfl rfl r9 ?_)
       go_quiet (fail)
       generalize E:World.drewN _ _=W4
       have i9:Hid (Below w9.heap.size w9 W4):=by rw [<- E];exact below_drewN _ _ _
       clear E
       go_wp2_with fail
       go_roundw
       case rel =>
        have d:=M.out
        exact N.out _ _ _ _ _ i9.out a3.out U.out (List.suffix_cons _ _) (List.suffix_cons _ _) (by rw [<- d.go,Zhz d.r1 b6.out]) (by rw [<- d.pu,Zmj d.r1 d.r2 b6.out,if_neg (by rw [f8.out];simp),List.append_assoc];rfl) (by have:=d.l1;have:=d.e1;simp only [List.length_append,List.length_cons,List.length_nil] at *;omega) (by have:=d.l2;have:=d.e2;simp only [List.length_append,List.length_cons,List.length_nil] at *;omega)
       case measure=>simp [Zo2];omega
end
section
open Go.RowKit Go.Shelf
theorem Zhw {w w':World} (h:Below w.heap.size w w') (g:Option Nat):w.grownBy w' g:=⟨h.os,h.tape,h.output,h.size,fun k H _=>h.block k H⟩
theorem Zz3 {w w1 w':World} {g g1:Option Nat} (h:w.grownBy w1 g) (L:w1.grownBy w' g1) (A:g1=g\/∃ q,g1=some q/\w.heap.size<=q):w.grownBy w' g :=
 ⟨L.os.trans h.os,L.tape.trans h.tape,L.output.trans h.output,Nat.le_trans h.size L.size,fun k H C=>(L.block k (Nat.lt_of_lt_of_le H h.size) (by
  rcases A with rfl | ⟨q,rfl,hq⟩
  ·exact C
  ·intro e;have:=Option.some.inj e;omega)).trans (h.block k H C)⟩
def Zfm (w:World) (g:Option Nat) (s:List Value) (c:Zs):Prop:=s.length=11/\(∀ u ∈ s,u.oneCell'=true)/\∀ w',w.grownBy w' g->Zbs w'.heap.size w' (.agg s.toArray) c
theorem Zfm.on {w w1:World} {g g1:Option Nat} {s:List Value} {c:Zs} (h:Zfm w g s c) (M:w.grownBy w1 g) (A:g1=g\/∃ q,g1=some q/\w.heap.size<=q):Zfm w1 g1 s c :=
 ⟨h.1,h.2.1,fun w' L=>h.2.2 w' (Zz3 M L A)⟩
def Zdw (base:Nat) (w:World) (v:Value) (cs:List Zs):Prop :=
 ∃ des:List (List Value),w.ownsRow base 51 11 v cs.length des.flatten/\des.length=cs.length/\∀ (i:Nat) (c:Zs) (s:List Value),cs[i]?=some c->des[i]?=some s->Zfm w v.ownBlock s c
theorem Zri (base:Nat) (w:World):Zdw base w (.slice none 0 0) []:=⟨[],World.ownsRow_nil _ _ _ _,rfl,fun i c s h=>by simp at h⟩
theorem Zdw.slice {base:Nat} {w:World} {v:Value} {cs:List Zs} (h:Zdw base w v cs):∃ a c,v=.slice a cs.length c:=by
 obtain ⟨des,h1,_⟩:=h
 exact Jn h1
theorem Zdw.below {base:Nat} {w w':World} {v:Value} {cs:List Zs} (h:Zdw base w v cs) (F:Below w.heap.size w w'):Zdw base w' v cs:=by
 obtain ⟨des,h1,h2,h3⟩:=h
 exact ⟨des,Jf h1 fun g _ A=>F.block g A,h2,fun i c s V K=>(h3 i c s V K).on (Zhw F _) (.inl rfl)⟩
theorem Tryz.info51  : (Tryz.prog.info? 51).map (fun i=>(i.zero,i.size,i.bytes))=some (some (.agg #[.int .i64 0,.int .i64 0,.int .i64 0,.int .i64 0,.slice none 0 0,.slice none 0 0,.int .i64 0,.int .i64 0,.int .i64 0,.string ⟨#[]⟩,.slice none 0 0]),11,144):=by kernel_rfl
theorem Zdw.app {ty base c9 X:Nat} {w:World} {v:Value} {cs:List Zs} {s:List Value} {c:Zs} (h:Zdw base w v cs) (N:Zfm w v.ownBlock s c) (hr:Rec w X s.toArray 51) (C:cs.length+1<=1000000) (F:base<=w.heap.size) :
  ∃ g cap w',(Builtin.append_ #[36,36] ty #[v,.slice (some ⟨X,0,none⟩) 1 c9]).run Tryz.prog w=.ok (.slice (some ⟨g,0,none⟩) (cs.length+1) cap) w'/\Zdw base w' (.slice (some ⟨g,0,none⟩) (cs.length+1) cap) (cs++[c])/\Below base w w':=by
 obtain ⟨des,h1,h2,h3⟩:=h
 obtain ⟨i0,E,a6,a5,a4⟩:=info_parts Tryz.info51
 obtain ⟨g,cap,w',W,ho,A,a2,a8⟩:=Zg5 (ty:=ty) (c:=c9) (news:=s) (z:=.agg #[.int .i64 0,.int .i64 0,.int .i64 0,.int .i64 0,.slice none 0 0,.slice none 0 0,.int .i64 0,.int .i64 0,.int .i64 0,.string ⟨#[]⟩,.slice none 0 0]) Tryz.underlying36 E a6 a5 a4 rfl (by decide) (by decide) h1 N.1 N.2.1 (Zsd hr) C F
 have O:(Value.slice (some ⟨g,0,none⟩) (cs.length+1) cap).ownBlock=v.ownBlock\/∃ q,(Value.slice (some ⟨g,0,none⟩) (cs.length+1) cap).ownBlock=some q/\w.heap.size<=q:=by
  rcases a2 with e | e
  ·exact .inl e.symm
  ·exact .inr ⟨g,rfl,by omega⟩
 refine ⟨g,cap,w',W,⟨des++[s],?_,by simp [h2],fun i d es K Y=>?_⟩,Zdk h1 F A⟩
 ·rw [List.length_append,List.flatten_append];simpa using ho
 ·by_cases hi':i<cs.length
  ·rw [List.getElem?_append_left hi'] at K
   rw [List.getElem?_append_left (by omega)] at Y
   exact (h3 i d es K Y).on A O
  ·rw [List.getElem?_append_right (by omega)] at K
   rw [List.getElem?_append_right (by omega),h2] at Y
   cases H:i - cs.length with
   | zero =>
    rw [H] at K Y
    obtain rfl:=Option.some.inj K
    obtain rfl:=Option.some.inj Y
    exact N.on A O
   | succ k=>rw [H] at K;simp at K
theorem Zn1 {B:Nat} {w:World} {s:List Value} {c:Zs} (h:Zbs B w (.agg s.toArray) c):∃ la lc m p T U,s=[.int .i64 c.kind,.int .i64 c.id,.int .i64 c.other,.int .i64 c.node.id,.slice la c.node.labels.length lc,.slice m c.node.props.length p,.int .i64 c.rel.id,.int .i64 c.rel.fr,.int .i64 c.rel.tt,.string c.rel.type,.slice T c.rel.props.length U]/\Ja B w (.agg #[.int .i64 c.node.id,.slice la c.node.labels.length lc,.slice m c.node.props.length p]) c.node/\Ji B w (.agg #[.int .i64 c.rel.id,.int .i64 c.rel.fr,.int .i64 c.rel.tt,.string c.rel.type,.slice T c.rel.props.length U]) c.rel/\c.rel.type.size<=maxLen:=by
 obtain ⟨la,lc,m,p,T,U,e,h1,h2,h3⟩:=h
 exact ⟨la,lc,m,p,T,U,by simpa using congrArg Array.toList (Value.agg.inj e),h1,h2,h3⟩
theorem Zdw.lie {base:Nat} {w:World} {v:Value} {cs:List Zs} (h:Zdw base w v cs):∃ a cap,v=.slice a cs.length cap/\cs.length<=cap/\cap<=9223372036854775807/\Zap w.heap.size w a cs:=by
 obtain ⟨des,h1,h2,h3⟩:=h
 have a0:∀ c ∈ des,c.length=11:=fun d K=>by
  obtain ⟨i,E⟩:=List.getElem?_of_mem K
  have hl:=(List.getElem?_eq_some_iff.1 E).1
  exact (h3 i _ d (List.getElem?_eq_getElem (by omega)) E).1
 have a7:=h1
 obtain ⟨_,⟨e,C⟩ | ⟨g,cap,cur,e,A,O,V,hm,_⟩⟩:=h1
 ·have:cs=[]:=List.eq_nil_of_length_eq_zero C
  subst this
  exact ⟨none,0,e,by simp,by omega,fun i c V=>by simp at V⟩
 ·subst e
  refine ⟨_,cap,rfl,V,by simp only [maxLen] at hm;omega,fun i c E=>?_⟩
  have hl:=(List.getElem?_eq_some_iff.1 E).1
  obtain ⟨s,a1⟩:∃ s,des[i]?=some s:=⟨_,List.getElem?_eq_getElem (by omega)⟩
  obtain ⟨la,lc,m,p,T,U,e,q1,q2,q3⟩:=Zn1 ((h3 i c s E a1).2.2 w (Zhw (Below.refl _ _) _))
  have l:∀ q u,s[q]?=some u->w.cell? ⟨g,0+i*11+q,none⟩=some u:=fun q u hu=>by rw [Nat.zero_add];exact Zgm a7 a0 a1 hu
  subst e
  exact ⟨g,0,la,lc,m,p,T,U,rfl,(Array.getElem?_eq_some_iff.1 O).1,⟨l 0 _ rfl,l 1 _ rfl,l 2 _ rfl,l 3 _ rfl,l 4 _ rfl,l 5 _ rfl,l 6 _ rfl,l 7 _ rfl,l 8 _ rfl,l 9 _ rfl,l 10 _ rfl⟩,q1,q2,q3⟩
theorem Zkt (B:Nat) (w:World):Ja B w (.agg #[.int .i64 0,.slice none 0 0,.slice none 0 0]) Zhk:=⟨none,0,none,0,rfl,⟨Nat.le_refl _,by omega⟩,.inl rfl,none,0,rfl,Nat.le_refl _,by omega,.inl rfl⟩
theorem Zku (B:Nat) (w:World):Ji B w (.agg #[.int .i64 0,.int .i64 0,.int .i64 0,.string ⟨#[]⟩,.slice none 0 0]) Zjv:=⟨none,0,rfl,none,0,rfl,Nat.le_refl _,by omega,.inl rfl⟩
theorem Zww {a b c d e f g h i j k:Value} (hh:a.oneCell'=true/\b.oneCell'=true/\c.oneCell'=true/\d.oneCell'=true/\e.oneCell'=true/\f.oneCell'=true/\g.oneCell'=true/\h.oneCell'=true/\i.oneCell'=true/\j.oneCell'=true/\k.oneCell'=true):∀ u ∈ [a,b,c,d,e,f,g,h,i,j,k],u.oneCell'=true:=fun u hu=>by
 obtain ⟨h0,h1,h2,h3,h4,h5,h6,h7,h8,h9,a9⟩:=hh
 simp only [List.mem_cons,List.not_mem_nil,or_false] at hu
 rcases hu with rfl | rfl | rfl | rfl | rfl | rfl | rfl | rfl | rfl | rfl | rfl<;>assumption
theorem Zcv (w:World) (g:Option Nat) (k i o:Int):Zfm w g [.int .i64 k,.int .i64 i,.int .i64 o,.int .i64 0,.slice none 0 0,.slice none 0 0,.int .i64 0,.int .i64 0,.int .i64 0,.string ⟨#[]⟩,.slice none 0 0] ⟨k,i,o,Zhk,Zjv⟩ :=
 ⟨rfl,Zww ⟨rfl,rfl,rfl,rfl,rfl,rfl,rfl,rfl,rfl,rfl,rfl⟩,fun w' _=>⟨none,0,none,0,none,0,rfl,Zkt _ _,Zku _ _,Nat.zero_le _⟩⟩
theorem Zi2 {w:World} {g:Option Nat} {n:Zo} {la m:Option Addr} {lc p:Nat} (h:∀ w',w.grownBy w' g->Ja w'.heap.size w' (.agg #[.int .i64 n.id,.slice la n.labels.length lc,.slice m n.props.length p]) n):Zfm w g [.int .i64 0,.int .i64 0,.int .i64 0,.int .i64 n.id,.slice la n.labels.length lc,.slice m n.props.length p,.int .i64 0,.int .i64 0,.int .i64 0,.string ⟨#[]⟩,.slice none 0 0] (Zbt n) :=
 ⟨rfl,Zww ⟨rfl,rfl,rfl,rfl,rfl,rfl,rfl,rfl,rfl,rfl,rfl⟩,fun w' M=>⟨la,lc,m,p,none,0,rfl,h w' M,Zku _ _,Nat.zero_le _⟩⟩
theorem Zl0 {w:World} {g:Option Nat} {n:Jg} {m:Option Addr} {p:Nat} (ht:n.type.size<=maxLen) (h:∀ w',w.grownBy w' g->Ji w'.heap.size w' (.agg #[.int .i64 n.id,.int .i64 n.fr,.int .i64 n.tt,.string n.type,.slice m n.props.length p]) n):Zfm w g [.int .i64 1,.int .i64 0,.int .i64 0,.int .i64 0,.slice none 0 0,.slice none 0 0,.int .i64 n.id,.int .i64 n.fr,.int .i64 n.tt,.string n.type,.slice m n.props.length p] (Zc3 n) :=
 ⟨rfl,Zww ⟨rfl,rfl,rfl,rfl,rfl,rfl,rfl,rfl,rfl,rfl,rfl⟩,fun w' M=>⟨none,0,none,0,m,p,rfl,Zkt _ _,h w' M,ht⟩⟩
theorem Zdw.grown {base:Nat} {w w':World} {v:Value} {cs:List Zs} (h:Zdw base w v cs) (R:base<=w.heap.size) (A:w.grownBy w' v.ownBlock):Below base w w':=by
 obtain ⟨des,h1,_⟩:=h
 exact Zdk h1 R A
theorem Zdw.lt {base:Nat} {w:World} {v:Value} {cs:List Zs} (h:Zdw base w v cs):∀ k,v.ownBlock=some k->base<=k/\k<w.heap.size:=by
 obtain ⟨des,h1,_⟩:=h
 exact h1.lt
theorem Zi3 {D B:Nat} {w w':World} {g:Option Nat} (R:B<=w.heap.size) (A:∀ k,g=some k->k<D) (h:w.grownBy w' g):Zb9 D B w w':=fun b o h1 h2=>by
 have F:=h.block b (by omega) (fun e=>by have:=A b e.symm;omega)
 exact ⟨World.cell?_of_block (a:=⟨b,o,none⟩) F,World.frozen?_of_block (a:=⟨b,o,none⟩) F⟩
theorem Zdf.lies {D B:Nat} {w:World} {cs:List Value} {n:Zo} (h:Zdf D B w cs n):Ja B w (.agg cs.toArray) n:=by
 obtain ⟨la,lc,pv,rfl,N,H,G⟩:=h
 have P:=G
 obtain ⟨m,p,rfl,_⟩:=G
 exact ⟨la,lc,m,p,rfl,⟨N.1,by have:=N.2;simp only [maxLen] at this;omega⟩,H.lie,P.lie⟩
theorem Zgn.lies {D B:Nat} {w:World} {cs:List Value} {n:Jg} (h:Zgn D B w cs n):Ji B w (.agg cs.toArray) n:=by
 obtain ⟨pv,rfl,G⟩:=h
 have P:=G
 obtain ⟨m,p,rfl,_⟩:=G
 exact ⟨m,p,rfl,P.lie⟩
theorem Zth {D:Nat} {w:World} {g:Option Nat} {cs:List Value} {n:Zo} (h:Zdf D w.heap.size w cs n) (A:∀ k,g=some k->k<D):∃ la lc m p,cs=[.int .i64 n.id,.slice la n.labels.length lc,.slice m n.props.length p]/\Zfm w g [.int .i64 0,.int .i64 0,.int .i64 0,.int .i64 n.id,.slice la n.labels.length lc,.slice m n.props.length p,.int .i64 0,.int .i64 0,.int .i64 0,.string ⟨#[]⟩,.slice none 0 0] (Zbt n):=by
 have L:=h
 obtain ⟨la,lc,pv,rfl,N,H,G⟩:=h
 obtain ⟨m,p,rfl,_⟩:=G
 exact ⟨la,lc,m,p,rfl,Zi2 fun w' M=>((Zep D).mono M.size ((Zep D).keep (Zi3 (Nat.le_refl _) A M) L)).lies⟩
theorem Zti {D:Nat} {w:World} {g:Option Nat} {cs:List Value} {n:Jg} (ht:n.type.size<=maxLen) (h:Zgn D w.heap.size w cs n) (A:∀ k,g=some k->k<D):∃ m p,cs=[.int .i64 n.id,.int .i64 n.fr,.int .i64 n.tt,.string n.type,.slice m n.props.length p]/\Zfm w g [.int .i64 1,.int .i64 0,.int .i64 0,.int .i64 0,.slice none 0 0,.slice none 0 0,.int .i64 n.id,.int .i64 n.fr,.int .i64 n.tt,.string n.type,.slice m n.props.length p] (Zc3 n):=by
 have L:=h
 obtain ⟨pv,rfl,G⟩:=h
 obtain ⟨m,p,rfl,_⟩:=G
 exact ⟨m,p,rfl,Zl0 ht fun w' M=>((Zgo D).mono M.size ((Zgo D).keep (Zi3 (Nat.le_refl _) A M) L)).lies⟩
theorem Zz4 {B:Nat} {Q:Nat->Prop} {w w':World} {v:Value} {I:List Zo} (h:Jei 3 (Ja B w) Q w' v I) (F:Below B w w') (R:B<=w'.heap.size):Jj w'.heap.size w' v I:=by
 obtain ⟨a,c,a3,e,h1,h2,h3,h4,h5⟩:=h
 refine ⟨a,c,e,h1,h2,h5.imp id fun ⟨bl,off,q1,q2,q3,q4⟩=>⟨bl,off,q1,q2,fun i n E=>?_⟩⟩
 obtain ⟨cs,S,_,la,lc,m,p,e1,N,H,G⟩:=h3.2 i n E
 have t:=(q4.2 i n cs E S).2.2.1
 have e2:cs=[.int .i64 n.id,.slice la n.labels.length lc,.slice m n.props.length p]:=by
  simpa using congrArg Array.toList (Value.agg.inj e1)
 subst e2
 exact ⟨la,lc,_,⟨t 0 _ rfl,t 1 _ rfl,t 2 _ rfl⟩,N,(H.below F).mono R,(Jd.below F G).mono R⟩
theorem Zz5 {B:Nat} {Q:Nat->Prop} {w w':World} {v:Value} {I:List Jg} (h:Jei 5 (Ji B w) Q w' v I) (F:Below B w w') (R:B<=w'.heap.size) (ht:∀ r ∈ I,r.type.size<=maxLen):Jt w'.heap.size w' v I:=by
 obtain ⟨a,c,a3,e,h1,h2,h3,h4,h5⟩:=h
 refine ⟨a,c,e,h1,h2,h5.imp id fun ⟨bl,off,q1,q2,q3,q4⟩=>⟨bl,off,q1,q2,fun i n E=>?_⟩⟩
 obtain ⟨cs,S,_,m,p,e1,G⟩:=h3.2 i n E
 have t:=(q4.2 i n cs E S).2.2.1
 have e2:cs=[.int .i64 n.id,.int .i64 n.fr,.int .i64 n.tt,.string n.type,.slice m n.props.length p]:=by
  simpa using congrArg Array.toList (Value.agg.inj e1)
 subst e2
 exact ⟨_,⟨t 0 _ rfl,t 1 _ rfl,t 2 _ rfl,t 3 _ rfl,t 4 _ rfl⟩,ht n (List.mem_of_getElem? E),(Jd.below F G).mono R⟩
theorem Zgy  : ∀ (ps:List (ByteArray × Zi)),Zcq ps=true->Zj1 ps=true
 | [],_=>rfl
 | q::r,h=>by
  rw [Zcq,Bool.and_eq_true,Bool.and_eq_true] at h
  rw [Zj1,Zgy r h.2,of_decide_eq_true h.1.1];rfl
theorem Ze8  : ∀ (I:List Zo),Js I=true->∀ n ∈ I,Zj1 n.props=true
 | [],_,n,C=>by cases C
 | x::r,h,n,C=>by
  rw [Js,Bool.and_eq_true] at h
  rcases List.mem_cons.1 C with rfl | C
  ·unfold Zgt at h;rw [Bool.and_eq_true] at h;exact Zgy _ h.1.1
  ·exact Ze8 r h.2 n C
theorem Zf9  : ∀ (I:List Jg),Jq I=true->∀ n ∈ I,Zj1 n.props=true
 | [],_,n,C=>by cases C
 | x::r,h,n,C=>by
  rw [Jq,Bool.and_eq_true] at h
  rcases List.mem_cons.1 C with rfl | C
  ·unfold Zgt at h;rw [Bool.and_eq_true] at h;exact Zgy _ h.1.1
  ·exact Zf9 r h.2 n C
theorem Ztj {a:Zt} (h:Jo a=true) (b:Zt):Zbu Zo.id Zbf a.nodes b.nodes=Zbu Zo.id Zu a.nodes b.nodes/\Zbu Jg.id Zby a.rels b.rels=Zbu Jg.id Je a.rels b.rels:=by
 unfold Jo at h
 simp only [Bool.and_eq_true] at h
 obtain ⟨_,_,_,⟨h1,h2⟩,_⟩:=h
 exact ⟨Zk4 _ _ fun x hx y=>by rw [Zni,Ze8 _ h1 x hx];simp,Zk4 _ _ fun x hx y=>by rw [Zpf,Zf9 _ h2 x hx];simp⟩
theorem Za6 {a:Zt} (h:Jo a=true):(a.nodes.map Zo.id).Pairwise (·<·)/\(a.rels.map Jg.id).Pairwise (·<·):=by
 unfold Jo at h
 simp only [Bool.and_eq_true] at h
 exact ⟨Zd2 h.2.1.1,Zd2 h.2.1.2⟩
end
section
open Go.RowKit Go.Shelf Go.WideShapes
noncomputable def RSC  : Array Oper:=Zy Tryz.f22 6
def LSC  : List Sig:=[⟨17,.move (.tmp 0),36,none⟩,⟨18,.move (.tmp 5),3,none⟩,⟨19,.indexAddr 36 (.tmp 17) (.tmp 18),0,none⟩,⟨20,.fieldAddr 51 (.tmp 19) 0,0,none⟩,⟨21,.load 43 (.tmp 20),43,none⟩,⟨22,.move (.tmp 1),36,none⟩,⟨23,.move (.tmp 5),3,none⟩,⟨24,.indexAddr 36 (.tmp 22) (.tmp 23),0,none⟩,⟨25,.fieldAddr 51 (.tmp 24) 0,0,none⟩,⟨26,.load 43 (.tmp 25),43,none⟩,⟨27,.binOp .neq 43 (.tmp 21) (.tmp 26) 43,4,none⟩,⟨28,.move (.tmp 27),4,none⟩,⟨29,.move (.tmp 0),36,some (11,false)⟩,⟨30,.move (.tmp 5),3,some (11,false)⟩,⟨31,.indexAddr 36 (.tmp 29) (.tmp 30),0,some (11,false)⟩,⟨32,.fieldAddr 51 (.tmp 31) 1,0,some (11,false)⟩,⟨33,.load 2 (.tmp 32),2,some (11,false)⟩,⟨34,.move (.tmp 1),36,some (11,false)⟩,⟨35,.move (.tmp 5),3,some (11,false)⟩,⟨36,.indexAddr 36 (.tmp 34) (.tmp 35),0,some (11,false)⟩,⟨37,.fieldAddr 51 (.tmp 36) 1,0,some (11,false)⟩,⟨38,.load 2 (.tmp 37),2,some (11,false)⟩,⟨39,.binOp .neq 2 (.tmp 33) (.tmp 38) 2,4,some (11,false)⟩,⟨40,.pick (.tmp 28) (.const (.bool true)) (.tmp 39),4,none⟩,⟨41,.move (.tmp 40),4,none⟩,⟨42,.move (.tmp 0),36,some (24,false)⟩,⟨43,.move (.tmp 5),3,some (24,false)⟩,⟨44,.indexAddr 36 (.tmp 42) (.tmp 43),0,some (24,false)⟩,⟨45,.fieldAddr 51 (.tmp 44) 2,0,some (24,false)⟩,⟨46,.load 2 (.tmp 45),2,some (24,false)⟩,⟨47,.move (.tmp 1),36,some (24,false)⟩,⟨48,.move (.tmp 5),3,some (24,false)⟩,⟨49,.indexAddr 36 (.tmp 47) (.tmp 48),0,some (24,false)⟩,⟨50,.fieldAddr 51 (.tmp 49) 2,0,some (24,false)⟩,⟨51,.load 2 (.tmp 50),2,some (24,false)⟩,⟨52,.binOp .neq 2 (.tmp 46) (.tmp 51) 2,4,some (24,false)⟩,⟨53,.pick (.tmp 41) (.const (.bool true)) (.tmp 52),4,none⟩,⟨54,.move (.tmp 53),4,none⟩,⟨55,.move (.tmp 0),36,some (37,false)⟩,⟨56,.move (.tmp 5),3,some (37,false)⟩,⟨57,.indexAddr 36 (.tmp 55) (.tmp 56),0,some (37,false)⟩,⟨58,.fieldAddr 51 (.tmp 57) 3,0,some (37,false)⟩,⟨59,.load 47 (.tmp 58),47,some (37,false)⟩,⟨60,.move (.tmp 1),36,some (37,false)⟩,⟨61,.move (.tmp 5),3,some (37,false)⟩,⟨62,.indexAddr 36 (.tmp 60) (.tmp 61),0,some (37,false)⟩,⟨63,.fieldAddr 51 (.tmp 62) 3,0,some (37,false)⟩,⟨64,.load 47 (.tmp 63),47,some (37,false)⟩,⟨65,.call { callee:=.value (.func 45),args:=#[.tmp 59,.tmp 64],argTypes:=#[47,47] },4,some (37,false)⟩,⟨66,.unOp .not 4 (.tmp 65),4,some (37,false)⟩,⟨67,.pick (.tmp 54) (.const (.bool true)) (.tmp 66),4,none⟩,⟨68,.move (.tmp 67),4,none⟩,⟨69,.move (.tmp 0),36,some (51,false)⟩,⟨70,.move (.tmp 5),3,some (51,false)⟩,⟨71,.indexAddr 36 (.tmp 69) (.tmp 70),0,some (51,false)⟩,⟨72,.fieldAddr 51 (.tmp 71) 4,0,some (51,false)⟩,⟨73,.load 49 (.tmp 72),49,some (51,false)⟩,⟨74,.move (.tmp 1),36,some (51,false)⟩,⟨75,.move (.tmp 5),3,some (51,false)⟩,⟨76,.indexAddr 36 (.tmp 74) (.tmp 75),0,some (51,false)⟩,⟨77,.fieldAddr 51 (.tmp 76) 4,0,some (51,false)⟩,⟨78,.load 49 (.tmp 77),49,some (51,false)⟩,⟨79,.call { callee:=.value (.func 46),args:=#[.tmp 73,.tmp 78],argTypes:=#[49,49] },4,some (51,false)⟩,⟨80,.unOp .not 4 (.tmp 79),4,some (51,false)⟩,⟨81,.pick (.tmp 68) (.const (.bool true)) (.tmp 80),4,none⟩]
theorem Jk3  : Jh RSC=LSC.map some:=by kernel_rfl
def ASC  : List (List Nat):=[[],[],[0,1],[2],[3],[],[],[5,6],[7],[8],[4,9],[10],[11],[11],[11,12,13],[11,14],[11,15],[11],[11],[11,17,18],[11,19],[11,20],[11,16,21],[11,22],[23],[24],[24],[24,25,26],[24,27],[24,28],[24],[24],[24,30,31],[24,32],[24,33],[24,29,34],[24,35],[36],[37],[37],[37,38,39],[37,40],[37,41],[37],[37],[37,43,44],[37,45],[37,46],[37,42,47],[37,48],[37,49],[50],[51],[51],[51,52,53],[51,54],[51,55],[51],[51],[51,57,58],[51,59],[51,60],[51,56,61],[51,62],[51,63]]
structure Jbv (f off n h d b l j:Nat) (s id o:Int) (C E t u A I y r1 r2 x v G H D z F:Value) (c:Act):Prop where
 t0:c.eval (.tmp 0)=.slice (some ⟨f,off,none⟩) n h
 t1:c.eval (.tmp 1)=.slice (some ⟨d,b,none⟩) n l
 t5:c.eval (.tmp 5)=.int .i64 (j:Int)
def Jj0 (f off n h d b l j:Nat) (s id o:Int) (C E t u A I y r1 r2 x v G H D z F:Value):List Value:=[.slice (some ⟨f,off,none⟩) n h,.int .i64 (j:Int),.pointer (some ⟨f,off+j*11,none⟩),.pointer (some ⟨f,off+j*11,none⟩),.int .i64 s,.slice (some ⟨d,b,none⟩) n l,.int .i64 (j:Int),.pointer (some ⟨d,b+j*11,none⟩),.pointer (some ⟨d,b+j*11,none⟩),.int .i64 s,.bool false,.bool false,.slice (some ⟨f,off,none⟩) n h,.int .i64 (j:Int),.pointer (some ⟨f,off+j*11,none⟩),.pointer (some ⟨f,off+j*11+1,none⟩),.int .i64 id,.slice (some ⟨d,b,none⟩) n l,.int .i64 (j:Int),.pointer (some ⟨d,b+j*11,none⟩),.pointer (some ⟨d,b+j*11+1,none⟩),.int .i64 id,.bool false,.bool false,.bool false,.slice (some ⟨f,off,none⟩) n h,.int .i64 (j:Int),.pointer (some ⟨f,off+j*11,none⟩),.pointer (some ⟨f,off+j*11+2,none⟩),.int .i64 o,.slice (some ⟨d,b,none⟩) n l,.int .i64 (j:Int),.pointer (some ⟨d,b+j*11,none⟩),.pointer (some ⟨d,b+j*11+2,none⟩),.int .i64 o,.bool false,.bool false,.bool false,.slice (some ⟨f,off,none⟩) n h,.int .i64 (j:Int),.pointer (some ⟨f,off+j*11,none⟩),.pointer (some ⟨f,off+j*11+3,none⟩),.agg #[C,E,t],.slice (some ⟨d,b,none⟩) n l,.int .i64 (j:Int),.pointer (some ⟨d,b+j*11,none⟩),.pointer (some ⟨d,b+j*11+3,none⟩),.agg #[u,A,I],.bool true,.bool false,.bool false,.bool false,.slice (some ⟨f,off,none⟩) n h,.int .i64 (j:Int),.pointer (some ⟨f,off+j*11,none⟩),.pointer (some ⟨f,off+j*11+6,none⟩),.agg #[y,r1,r2,x,v],.slice (some ⟨d,b,none⟩) n l,.int .i64 (j:Int),.pointer (some ⟨d,b+j*11,none⟩),.pointer (some ⟨d,b+j*11+6,none⟩),.agg #[G,H,D,z,F],.bool true,.bool false,.bool false]
structure Zqn (f off n h d b l j:Nat) (s id o:Int) (C E t u A I y r1 r2 x v G H D z F:Value) (w:World):Prop where
 lt:j<n
 le:n<=9223372036854775807
 c0:w.cell? ⟨f,off+j*11,none⟩=some (.int .i64 s)
 d0:w.cell? ⟨d,b+j*11,none⟩=some (.int .i64 s)
 c1:w.cell? ⟨f,off+j*11+1,none⟩=some (.int .i64 id)
 d1:w.cell? ⟨d,b+j*11+1,none⟩=some (.int .i64 id)
 c2:w.cell? ⟨f,off+j*11+2,none⟩=some (.int .i64 o)
 d2:w.cell? ⟨d,b+j*11+2,none⟩=some (.int .i64 o)
 c3:w.cell? ⟨f,off+j*11+3,none⟩=some (C)
 c4:w.cell? ⟨f,off+j*11+4,none⟩=some (E)
 c5:w.cell? ⟨f,off+j*11+5,none⟩=some (t)
 d3:w.cell? ⟨d,b+j*11+3,none⟩=some (u)
 d4:w.cell? ⟨d,b+j*11+4,none⟩=some (A)
 d5:w.cell? ⟨d,b+j*11+5,none⟩=some (I)
 k1:Calls Tryz.prog 45 #[.agg #[C,E,t],.agg #[u,A,I]] w fun e w'=>e=.returned (.bool true)/\Below w.heap.size w w'
 c6:w.cell? ⟨f,off+j*11+6,none⟩=some (y)
 c7:w.cell? ⟨f,off+j*11+7,none⟩=some (r1)
 c8:w.cell? ⟨f,off+j*11+8,none⟩=some (r2)
 c9:w.cell? ⟨f,off+j*11+9,none⟩=some (x)
 c10:w.cell? ⟨f,off+j*11+10,none⟩=some (v)
 d6:w.cell? ⟨d,b+j*11+6,none⟩=some (G)
 d7:w.cell? ⟨d,b+j*11+7,none⟩=some (H)
 d8:w.cell? ⟨d,b+j*11+8,none⟩=some (D)
 d9:w.cell? ⟨d,b+j*11+9,none⟩=some (z)
 d10:w.cell? ⟨d,b+j*11+10,none⟩=some (F)
 k2:Calls Tryz.prog 46 #[.agg #[y,r1,r2,x,v],.agg #[G,H,D,z,F]] w fun e w'=>e=.returned (.bool true)/\Below w.heap.size w w'
theorem Zu3 (f off n h d b l j:Nat) (s id o:Int) (C E t u A I y r1 r2 x v G H D z F:Value) (Q:Exit->Act->World->Prop) (base:Act) (P:World) (a1:base.tmps.size=82) (m:Jbv f off n h d b l j s id o C E t u A I y r1 r2 x v G H D z F base)
  (L:∀ w,Below P.heap.size P w->Zqn f off n h d b l j s id o C E t u A I y r1 r2 x v G H D z F w) (hQ:∀ c w,Zaf RSC base c->Below P.heap.size P w->c.eval (.tmp 81)=.bool false->Q .normal c w):(Code.region 6 RSC true).wp Tryz.prog Q base P:=by
 refine Zn (B:=Jbv f off n h d b l j s id o C E t u A I y r1 r2 x v G H D z F) (T:=Zqn f off n h d b l j s id o C E t u A I y r1 r2 x v G H D z F) (n:=65) (k:=64) LSC ASC (Jj0 f off n h d b l j s id o C E t u A I y r1 r2 x v G H D z F) Jk3 rfl (by kernel_rfl) (by kernel_rfl) (by kernel_rfl) (by rw [a1];kernel_rfl) (fun c N=>⟨(Zc N (by kernel_rfl)).trans m.t0,(Zc N (by kernel_rfl)).trans m.t1,(Zc N (by kernel_rfl)).trans m.t5⟩) L ?_ (by decide) rfl rfl hQ
 clear a1 m L hQ
 iterate 65 (refine Zd ?_ (by
  intro c w m L hEq
  obtain ⟨t0,t1,t5⟩:=m
  obtain ⟨lt,le,c0,d0,c1,d1,c2,d2,c3,c4,c5,d3,d4,d5,k1,c6,c7,c8,c9,c10,d6,d7,d8,d9,d10,k2⟩:=L
  have ec:=evc c
  have ef:=evf c
  dsimp only [ASC,LSC,Jj0,nth,Zbm,Za2,Jc] at hEq |-
  first
  | exact ⟨by simp only [hEq],.inr ⟨by first | exact .inl rfl | exact .inr rfl,rfl⟩⟩
  | ((try refine ⟨by simp only [hEq],.inl ⟨rfl,?_⟩⟩);first | (refine Zk Tryz.call45 k1 ?_;simp only [List.map_toArray,List.map_cons,List.map_nil,hEq];done) | (refine Zk Tryz.call46 k2 ?_;simp only [List.map_toArray,List.map_cons,List.map_nil,hEq];done) | (refine .inl fun pos af=>?_;(clear k1 k2;dsimp only [Sig.oper];generalize c.eval=ρ at *;go_simp;done)))))
 exact Zf
attribute [local go_sem] Oper.semAt_some
theorem Zu4 (cs:List Zs) (a a2:Option Addr) (h l B:Nat) (w:World) (hB:B<=w.heap.size) (hc:Zap B w a cs) (hd:Zap B w a2 cs) (h1:cs.length<=h) (h2:h<=9223372036854775807) (g1:cs.length<=l) (g2:l<=9223372036854775807) :
  Calls Tryz.prog 22 #[.slice a cs.length h,.slice a2 cs.length l] w fun e w'=>e=.returned (.bool true)/\Below w.heap.size w w':=by
 have Y:=Zb (And.intro hc hd)
 obtain ⟨n,hn⟩:∃ n,cs.length=n:=⟨_,rfl⟩
 rw [hn] at h1 g1 |-
 have HN:=Zb hn
 have hz:((n:Int) != (n:Int))=false:=by simp
 clear hc hd hn
 go_enter Tryz.func22,Tryz.ntmps22
 go_wp2_with fail
 clear hz
 go_loopw [5] (fun i wr=>∃ j:Nat,j<=n/\i=.int .i64 j/\Below w.heap.size w wr) (fun i _=>n - (intOf i).toNat)
 case atStart=>exact ⟨0,Nat.zero_le _,rfl,Below.refl _ _⟩
 case round =>
  obtain ⟨j,hj,rfl,M⟩:=hrel
  have r:=Zb M
  have b4:w.heap.size<=wr.heap.size:=M.size
  clear M
  by_cases hlt:j<n
  ·have a4:(j:Int)<n:=by omega
   obtain ⟨c,hx⟩:∃ q,cs[j]?=some q:=⟨_,List.getElem?_eq_getElem (by have:=HN.out;omega)⟩
   obtain ⟨f,off,la,lc,pa,pc,qa,qc,rfl,b3,⟨c0,c1,c2,c3,c4,c5,c6,c7,c8,c9,c10⟩,U,S,_⟩:=Y.out.1 j c hx
   obtain ⟨d,b,a7,a8,a6,a5,a9,b1,rfl,b2,⟨d0,d1,d2,d3,d4,d5,d6,d7,d8,d9,d10⟩,V,R,_⟩:=Y.out.2 j c hx
   have X:=Zb (fun W (m:Below w.heap.size w W)=>Zd9 c.node c.node B _ _ W (by have:=m.size;omega) (U.below (m.mono hB)) (V.below (m.mono hB)))
   have a0:=Zb (fun W (m:Below w.heap.size w W)=>Zfd c.rel c.rel B _ _ W (by have:=m.size;omega) (S.below (m.mono hB)) (R.below (m.mono hB)))
   rw [Zgi] at X
   rw [Zhf] at a0
   clear U V S R hx
   go_upto_region 6 with fail
   show (Code.region 6 RSC true).wp _ _ _ _
   refine Zu3 f off n h d b l j c.kind c.id c.other (.int .i64 c.node.id) (.slice la c.node.labels.length lc) (.slice pa c.node.props.length pc) (.int .i64 c.node.id) (.slice a7 c.node.labels.length a8) (.slice a6 c.node.props.length a5) (.int .i64 c.rel.id) (.int .i64 c.rel.fr) (.int .i64 c.rel.tt) (.string c.rel.type) (.slice qa c.rel.props.length qc) (.int .i64 c.rel.id) (.int .i64 c.rel.fr) (.int .i64 c.rel.tt) (.string c.rel.type) (.slice a9 c.rel.props.length b1) _ _ _ rfl ⟨rfl,rfl,rfl⟩ ?_ ?_
   ·intro W L
    have K:∀ o,W.cell? ⟨f,o,none⟩=w.cell? ⟨f,o,none⟩:=fun o=>(Za r.out L).cell (p:=⟨f,o,none⟩) (by show f<_;omega)
    have g:∀ o,W.cell? ⟨d,o,none⟩=w.cell? ⟨d,o,none⟩:=fun o=>(Za r.out L).cell (p:=⟨d,o,none⟩) (by show d<_;omega)
    exact ⟨hlt,by omega,(K _).trans c0,(g _).trans d0,(K _).trans c1,(g _).trans d1,(K _).trans c2,(g _).trans d2,(K _).trans c3,(K _).trans c4,(K _).trans c5,(g _).trans d3,(g _).trans d4,(g _).trans d5,X.out W (Za r.out L),(K _).trans c6,(K _).trans c7,(K _).trans c8,(K _).trans c9,(K _).trans c10,(g _).trans d6,(g _).trans d7,(g _).trans d8,(g _).trans d9,(g _).trans d10,a0.out W (Za r.out L)⟩
   intro c W3 N a3 O
   rw [Zj N [17,18,19,20,21,22,23,24,25,26,27,28,29,30,31,32,33,34,35,36,37,38,39,40,41,42,43,44,45,46,47,48,49,50,51,52,53,54,55,56,57,58,59,60,61,62,63,64,65,66,67,68,69,70,71,72,73,74,75,76,77,78,79,80,81] (by kernel_rfl)]
   simp only [List.foldl_cons,List.foldl_nil,List.setIfInBounds_toArray,List.set_cons_succ,List.set_cons_zero,show Zbd c 81=_ from O]
   clear O N
   have b0:=Zb (Za r.out a3)
   clear a3
   go_wp2_with fail
   go_roundw
   case rel=>exact ⟨j+1,by omega,by go_num,b0.out⟩
   case measure=>simp [intOf];omega
  ·have a4:¬ (j:Int)<n:=by omega
   go_wp2_with fail
   go_ret
   exact ⟨rfl,r.out⟩
end
section
open Go.RowKit Go.Shelf
attribute [local go_sem] Oper.semAt_some
def Zei (id:Int):List Jg->Nat->Int
 | [],_=>-1
 | n::r,j=>if n.id=id then j else Zei id r (j+1)
theorem Zq9 {id:Int} {b:List Jg} {j:Nat} {n:Jg} (h:b[j]?=some n):Zei id (b.drop j) j=if n.id=id then (j:Int) else Zei id (b.drop (j+1)) (j+1):=by
 obtain ⟨I,l⟩:=List.getElem?_eq_some_iff.1 h
 rw [List.drop_eq_getElem_cons I,l,Zei]
theorem Zis (id:Int):∀ (b:List Jg) (j:Nat),decide (Zei id b j<0)=!(b.any fun n=>n.id==id)
 | [],j=>by simp [Zei]
 | n::r,j=>by
  rw [Zei,List.any_cons]
  by_cases h:n.id=id
  ·rw [if_pos h];simp [h]
  ·rw [if_neg h,Zis id r (j+1),beq_eq_false_iff_ne.2 h];rfl
theorem Znl (id:Int):∀ (b:List Zo) (j:Nat),0<=Zcc id b j->∃ (m:Nat) (x:Zo),Zcc id b j=(j+m:Nat)/\b[m]?=some x/\x.id=id
 | [],j,h=>by simp [Zcc] at h
 | n::r,j,h=>by
  rw [Zcc] at h |-
  by_cases e:n.id=id
  ·exact ⟨0,n,by rw [if_pos e];rfl,rfl,e⟩
  ·rw [if_neg e] at h |-
   obtain ⟨m,x,h1,h2,h3⟩:=Znl id r (j+1) h
   exact ⟨m+1,x,by rw [h1];congr 1;omega,by simpa using h2,h3⟩
theorem Znm (id:Int):∀ (b:List Jg) (j:Nat),0<=Zei id b j->∃ (m:Nat) (x:Jg),Zei id b j=(j+m:Nat)/\b[m]?=some x/\x.id=id
 | [],j,h=>by simp [Zei] at h
 | n::r,j,h=>by
  rw [Zei] at h |-
  by_cases e:n.id=id
  ·exact ⟨0,n,by rw [if_pos e];rfl,rfl,e⟩
  ·rw [if_neg e] at h |-
   obtain ⟨m,x,h1,h2,h3⟩:=Znm id r (j+1) h
   exact ⟨m+1,x,by rw [h1];congr 1;omega,by simpa using h2,h3⟩
set_option maxRecDepth 100000 in
set_option maxHeartbeats 4000000 in
theorem Zkj (g:Zt) (id:Int) (B:Nat) (v:Value) (w:World) (M:B<=w.heap.size) (P:Zr B w v g):Calls Tryz.prog 61 #[v,.int .i64 id] w fun e w'=>e=.returned (.int .i64 (Zei id g.rels 0))/\Below w.heap.size w w':=by
 obtain ⟨T,Q,F,E,rfl,_,o⟩:=P
 obtain ⟨N,b,nn,nr⟩:=g
 simp only at o |-
 obtain ⟨U,O,e1,h1,h2,z⟩:=o
 obtain ⟨rfl,rfl⟩:F=U/\E=O:=by injection e1 with e1 _ e2;exact ⟨e1,e2⟩
 have R:=Zb z
 obtain ⟨n,o⟩:∃ n,b.length=n:=⟨_,rfl⟩
 have G:=Zb o
 rw [o] at h1 |-
 obtain ⟨m,K⟩:∃ m,N.length=m:=⟨_,rfl⟩
 rw [K]
 obtain ⟨res,c⟩:∃ r,Zei id b 0=r:=⟨_,rfl⟩
 have S:=Zb c
 rw [c]
 clear z o c K e1
 obtain ⟨s,d⟩:∃ s,w.alloc (.cells #[.slice T m Q,.slice F n E,.int .i64 nn,.int .i64 nr] 25)=s:=⟨_,rfl⟩
 have t:Below w.heap.size w s:=d▸(Below.refl _ _).alloc (Nat.le_refl _) _
 have q0:s.cell? ⟨w.heap.size,1,none⟩=some (.slice F n E):=d▸Zaj _ _ _ _ _ rfl
 have k:=Zb t
 have u:=Zb d
 clear t d
 go_enter Tryz.func61,Tryz.ntmps61
 go_upto_region 1 with fail
 rw [u.out]
 clear u
 go_wp2_with fail
 go_loopw [5] (fun i wr=>∃ j:Nat,j<=n/\i=.int .i64 j/\wr=s/\Zei id (b.drop j) j=res) (fun i _=>n - (intOf i).toNat)
 case atStart=>exact ⟨0,Nat.zero_le _,rfl,rfl,S.out⟩
 case round =>
  obtain ⟨j,I,rfl,rfl,p⟩:=hrel
  have f:=Zb p
  clear p
  by_cases hlt:j<n
  ·have A:(j:Int)<n:=by omega
   obtain ⟨⟨xi,Y,xt,xs,V⟩,l⟩:∃ q,b[j]?=some q:=⟨_,List.getElem?_eq_getElem (by have:=G.out;omega)⟩
   have L:=Zb l
   obtain ⟨W,off,rfl,C,H⟩:=R.out.resolve_left (by intro e;rw [e] at l;simp at l)
   obtain ⟨X,⟨c0,c1,c2,c3,c4⟩,_⟩:=(H j _ l).below (k.out.mono M) C
   simp only at c0
   clear H l c1 c2 c3 c4
   by_cases he:xi=id
   ·have D:(xi==id)=true:=by simp [he]
    have y:Hid (res=(j:Int)):=by
     show _=_
     rw [<- f.out,Zq9 L.out];exact if_pos he
    clear he
    go_wp2_with fail
    go_ret
    exact ⟨by rw [y.out];rfl,k.out⟩
   ·have D:(xi==id)=false:=by simp [he]
    have y:Hid (Zei id (b.drop (j+1)) (j+1)=res):=by
     show _=_
     rw [<- f.out,Zq9 L.out];exact (if_neg he).symm
    clear he
    go_wp2_with fail
    go_roundw
    case rel=>exact ⟨j+1,by omega,by go_num,trivial,y.out⟩
    case measure=>simp [intOf];omega
  ·have y:Hid (res=-1):=by
    show _=_
    rw [<- f.out,List.drop_of_length_le (by have:=G.out;omega)]
    rfl
   have A:¬ (j:Int)<n:=by omega
   go_wp2_with fail
   go_ret
   exact ⟨by rw [y.out];rfl,k.out⟩
end
