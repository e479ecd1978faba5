/- Where relationships begin and end, counted by nodes; the nodes' labels. Small things of the laws: numbers, how many rows, the chapter's graph. -/
import Derived.Test.YthfilnflgahcjaaGreatDoorJoin19
import Derived.Test.YthfilnflgahcjaaGreatDoorJoin9
import Derived.Test.YthfilnflgahcjaaGreatDoorJoin7
import Derived.Test.YthfilnflgahcjaaGreatDoorJoin5
import Derived.Test.YthfilnflgahcjaaGreatDoorJoin18
namespace Go.Proofs.YthfilnflgahcjaaGreatDoor
open Go.RowKit Go.Shelf Go.Maps
set_option linter.all false
attribute [local go_sem] Oper.semAt_some
abbrev Zba:=Int × ByteArray × Bool
def Zka (x:Zba):Value:=.agg #[.int .i64 x.1,.string x.2.1,.bool x.2.2]
def okJ (x:Zba):Prop:=W64 x.1/\okS x.2.1
theorem Jiv:Znc 183 Zka okJ:=⟨Keyed.of_law Jge,fun x o=>Jgf _ _ _ o.1 o.2,fun x y h=>by
 obtain ⟨a,b,c⟩:=x
 obtain ⟨a',b',c'⟩:=y
 have:=Zi8 h
 simp at this
 obtain ⟨rfl,rfl,rfl⟩:=this
 rfl⟩
theorem Jgi:Tryz.prog.underlying 181=some (.map 183 2):=by kernel_rfl
theorem Zy3:Tryz.prog.underlying 184=some (.map 2 43):=by kernel_rfl
section
variable {α:Type} [DecidableEq α]
def cnt (ts:List α):List (α × Int):=ts.foldl (fun cs t=>Zcn t 1 cs) []
theorem Zuf (ts:List α) (t:α):cnt (ts++[t])=Zcn t 1 (cnt ts):=by simp [cnt]
theorem Ziq (ts:List α):((cnt ts).map Prod.fst).Nodup:=by
 unfold cnt
 suffices h:∀ (ts:List α) (cs:List (α × Int)),(cs.map Prod.fst).Nodup->((ts.foldl (fun cs t=>Zcn t 1 cs) cs).map Prod.fst).Nodup from h ts [] List.nodup_nil
 intro ts
 induction ts with
 | nil=>intro cs h;exact h
 | cons t r ih=>intro cs h;exact ih _ (Zgv _ _ _ h)
theorem Zlu (ts:List α) (x:α):0<=Zn x (cnt ts)/\Zn x (cnt ts)<=ts.length:=by
 unfold cnt
 suffices h:∀ (ts:List α) (cs:List (α × Int)) (n:Nat),(0<=Zn x cs/\Zn x cs<=n)->0<=Zn x (ts.foldl (fun cs t=>Zcn t 1 cs) cs)/\Zn x (ts.foldl (fun cs t=>Zcn t 1 cs) cs)<=(n+ts.length:Nat) by
  have:=h ts [] 0 (by simp [Zn])
  simpa using this
 intro ts
 induction ts with
 | nil=>intro cs n h;simpa using h
 | cons t r ih =>
  intro cs n h
  have:=ih (Zcn t 1 cs) (n+1) (by rw [Zgw];split<;>omega)
  simp only [List.foldl_cons,List.length_cons] at *
  omega
end
def Zl (rs:List Zbr):List Zba:=rs.flatMap fun r=>[(r.fr,r.type,true),(r.tt,r.type,false)]
theorem Zsp {rs:List Zbr} {j:Nat} {x:Zbr} (h:rs[j]?=some x):Zl (rs.take (j+1))=(Zl (rs.take j)++[(x.fr,x.type,true)])++[(x.tt,x.type,false)]:=by
 unfold Zl
 rw [List.take_add_one,h,List.flatMap_append]
 simp
theorem Zcb:∀ (rs:List Zbr),(Zl rs).length=2*rs.length
 | []=>rfl
 | r::l=>by
  have:=Zcb l
  unfold Zl at *
  simp only [List.flatMap_cons,List.length_append,List.length_cons,List.length_nil,this];omega
theorem Znb {W:World} {b:Nat} {ks:List Zba} (h:MC Zka okJ W b (cnt ks)) (x:Zba) (o:okJ x) (hl:ks.length<=1000000) :
  ∃ (st:Nat) (w1 w2:World) (c:Int),0<=c/\c<=1000000/\IntKind.i64.wrap (c+1)=c+1/\(Instr.lookup 181 (.map (some b)) (Zka x) false).run Tryz.prog W.drew=.ok (.int .i64 c) W.drew/\(Instr.mapEntry 181 (.map (some b)) (Zka x)).run Tryz.prog W.drew=.ok (.tuple #[.int .i64 c,.int .i64 st]) w1/\(Instr.lookup 181 (.map (some b)) (Zka x) false).run Tryz.prog w1=.ok (.int .i64 c) w1/\(Instr.entryStore 181 (.map (some b)) (.int .i64 st) (.int .i64 (c+1))).run Tryz.prog w1=.ok () w2/\MC Zka okJ w2 b (cnt (ks++[x]))/\w2.heap.size=W.heap.size/\(∀ i,i≠b->w2.heap[i]?=W.heap[i]?)/\Below b W w2:=by
 obtain ⟨st,w1,w2,q1,q2,q3,q4,q5,q6,q7,q8⟩:=Zhn Jiv Jgi (w:=W.drew) h (Ziq _) x o 1
 have hc:=Zlu ks x
 refine ⟨st,w1,w2,_,hc.1,by omega,by rw [IntKind.wrap_i64];omega,q1,q2,q3,q4,by rw [Zuf];exact q5,q6,q7,((Below.refl b W).drew).trans q8⟩
theorem Zir {P:Program} {c:Code} {Q:Exit->Act->World->Prop} {a:Act} {w:World} (w2:World) (h:∃ A,c.wp P (Exit.then (fun a W=>a=A/\W=w2) fun _ _ _=>False) a w/\Q .normal A w2):c.wp P Q a w:=by
 obtain ⟨A,h1,h2⟩:=h
 exact Code.wp_mono (fun e a W q=>by cases e<;>first | (obtain ⟨e2,e3⟩:=q;subst e2;subst e3;exact h2) | exact q.elim) h1
def Zug (B:Nat) (w0 W:World) (b:Nat) (ns:List Zj):Prop:=∃ es,MI W b es/\es.map Prod.fst=ns.map Zj.id/\∀ (j:Nat) x,ns[j]?=some x->∃ la lc,es[j]?=some (x.id,.slice la x.labels.length lc)/\x.labels.length<=lc/\lc<=9223372036854775807/\Zbh B w0 la x.labels
theorem Zug.block {B:Nat} {w0 W W':World} {b:Nat} {ns:List Zj} (h:Zug B w0 W b ns) (e:W'.heap[b]?=W.heap[b]?):Zug B w0 W' b ns:=by
 obtain ⟨es,h1,h2⟩:=h
 exact ⟨es,h1.block e,h2⟩
theorem Zug.lt {B:Nat} {w0 W:World} {b:Nat} {ns:List Zj} (h:Zug B w0 W b ns):b<W.heap.size:=by
 obtain ⟨es,h1,h2⟩:=h
 exact h1.lt
theorem Jb1 {B:Nat} {w0 W:World} {b j:Nat} {ns:List Zj} {x:Zj} {la:Option Addr} {lc:Nat} (h:Zug B w0 W b (ns.take j)) (o:ns[j]?=some x) (hd:(ns.map Zj.id).Nodup) (hi:W64 x.id) (h1:x.labels.length<=lc) (h2:lc<=9223372036854775807) (h3:Zbh B w0 la x.labels) :
  ∃ w',(Instr.mapUpdate 184 (.map (some b)) (.int .i64 x.id) (.slice la x.labels.length lc)).run Tryz.prog W=.ok () w'/\Zug B w0 w' b (ns.take (j+1))/\w'.heap.size=W.heap.size/\(∀ i,i≠b->w'.heap[i]?=W.heap[i]?)/\Below b W w':=by
 obtain ⟨es,e1,e2,e3⟩:=h
 have i1:j<ns.length:=(List.getElem?_eq_some_iff.1 o).1
 have e7:es.length=j:=by
  have:=congrArg List.length e2
  simp only [List.length_map,List.length_take] at this;omega
 have hn:∀ p ∈ es,p.1≠x.id:=by
  intro p hp e
  have f6:p.1 ∈ es.map Prod.fst:=List.mem_map_of_mem hp
  rw [e2] at f6
  obtain ⟨y,hy,g4⟩:=List.mem_map.1 f6
  obtain ⟨k,hk⟩:=List.getElem?_of_mem hy
  rw [List.getElem?_take] at hk
  split at hk
  case isFalse=>cases hk
  case isTrue hkj =>
   have a1:(ns.map Zj.id)[k]?=some x.id:=by rw [List.getElem?_map,hk];simp [g4,e]
   have a2:(ns.map Zj.id)[j]?=some x.id:=by rw [List.getElem?_map,o];rfl
   have:=(List.getElem?_inj (by simp;omega) hd).1 (a1.trans a2.symm)
   omega
 obtain ⟨w',f1,f2,f3,f4,f5⟩:=Jcb Zy3 e1 x.id (.slice la x.labels.length lc) hi hn
 refine ⟨w',f1,⟨_,f2,?_,?_⟩,f3,f4,f5⟩
 ·rw [List.take_add_one,o];simp [e2]
 ·intro k y hk
  by_cases hkj:k=j
  ·subst hkj
   have:y=x:=by
    rw [List.getElem?_take,if_pos (by omega),o] at hk
    exact (Option.some.inj hk).symm
   subst this
   exact ⟨la,lc,by rw [List.getElem?_append_right (by omega)];simp [e7],h1,h2,h3⟩
  ·rw [List.getElem?_take] at hk
   split at hk
   case isFalse=>cases hk
   case isTrue hk1 =>
    have g6:(ns.take j)[k]?=some y:=by rw [List.getElem?_take,if_pos (by omega)];exact hk
    obtain ⟨g9,g1,q1,q2⟩:=e3 k y g6
    exact ⟨g9,g1,by rw [List.getElem?_append_left (by omega)];exact q1,q2⟩
set_option maxRecDepth 100000 in
set_option maxHeartbeats 16000000 in
theorem Jb2 (g:Zx) (v:Value) (B:Nat) (w:World) (hB:B<=w.heap.size) (h:Zp B w v g) (hl:g.rels.length<=100000) (g5:g.nodes.length<=100000) (a6:∀ r ∈ g.rels,W64 r.fr/\W64 r.tt) (hd:(g.nodes.map Zj.id).Nodup) (hid:∀ n ∈ g.nodes,W64 n.id) :
  Calls Tryz.prog 90 #[v] w fun e w'=>∃ bj bl mj ml,e=.returned (.func (.func 124) #[] #[.pointer (some ⟨bj,0,none⟩),.pointer (some ⟨bl,0,none⟩)])/\Rec w' bj #[.map (some mj)] 181/\Rec w' bl #[.map (some ml)] 184/\w.heap.size<=bj/\w.heap.size<=bl/\w.heap.size<=mj/\w.heap.size<=ml/\MC Zka okJ w' mj (cnt (Zl g.rels))/\Zug B w w' ml g.nodes/\Below w.heap.size w w':=by
 obtain ⟨na,nc,ra,rc,rfl,hn,hr⟩:=h
 obtain ⟨h5,h8,e0,r1,r2,r3⟩:=hr
 obtain ⟨rfl,rfl⟩:ra=h5/\rc=h8:=by injection e0 with a b c;exact ⟨a,c⟩
 obtain ⟨h9,g3,f7,n1,n2,n3⟩:=hn
 obtain ⟨rfl,rfl⟩:na=h9/\nc=g3:=by injection f7 with a b c;exact ⟨a,c⟩
 have g0:=Za r3
 have g7:=Za n3
 have e8:=Za a6
 have HD:=Za hd
 have g8:=Za hid
 obtain ⟨m,b5⟩:∃ m,g.rels.length=m:=⟨_,rfl⟩
 have HM:=Za b5
 rw [b5] at r1 hl |-
 obtain ⟨l1,b8⟩:∃ m,g.nodes.length=m:=⟨_,rfl⟩
 have f0:=Za b8
 rw [b8] at g5 n1 |-
 generalize g.nn=nn at *
 generalize g.nr=nr at *
 clear e0 f7 r3 n3 b5 b8 a6 hd hid
 have i2:∀ W:World,(Instr.makeMap 181 none).run Tryz.prog W=.ok (.map (some W.heap.size)) (W.alloc (.map #[] 0)):=fun W=>rfl
 have i0:∀ W:World,(Instr.makeMap 184 none).run Tryz.prog W=.ok (.map (some W.heap.size)) (W.alloc (.map #[] 0)):=fun W=>rfl
 go_enter Tryz.func90,Tryz.ntmps90
 go_upto_region 2 with fail
 obtain ⟨N,u⟩:∃ W,w.alloc (.cells #[.slice na l1 nc,.slice ra m rc,.int .i64 nn,.int .i64 nr] 25)=W:=⟨_,rfl⟩
 have f9:Rec N w.heap.size #[.slice na l1 nc,.slice ra m rc,.int .i64 nn,.int .i64 nr] 25:=by rw [<- u];exact Zk _ _ _
 have G:N.heap.size=w.heap.size+1:=by rw [<- u];simp
 have F:Below w.heap.size w N:=by rw [<- u];exact (Below.refl _ _).alloc (Nat.le_refl _) _
 rw [u]
 obtain ⟨Wb,T⟩:∃ W,N.alloc (.map #[] 0)=W:=⟨_,rfl⟩
 have s:Below N.heap.size N Wb:=by rw [<- T];exact (Below.refl _ _).alloc (Nat.le_refl _) _
 have c9:MC Zka okJ Wb (w.heap.size+1) []:=by rw [<- T,<- G];exact Zc9 _
 have b0:Wb.heap.size=w.heap.size+1+1:=by rw [<- T,<- G];simp
 rw [T]
 obtain ⟨W1,U⟩:∃ W,Wb.alloc (.cells #[.map (some (w.heap.size+1))] 181)=W:=⟨_,rfl⟩
 have a0:Below Wb.heap.size Wb W1:=by rw [<- U];exact (Below.refl _ _).alloc (Nat.le_refl _) _
 have d5:Rec W1 (w.heap.size+1+1) #[.map (some (w.heap.size+1))] 181:=by rw [<- U,<- b0];exact Zk _ _ _
 have h6:W1.heap.size=w.heap.size+1+1+1:=by rw [<- U,<- b0];simp
 have a7:Rec W1 w.heap.size #[.slice na l1 nc,.slice ra m rc,.int .i64 nn,.int .i64 nr] 25:=(f9.below s (by omega)).below a0 (by omega)
 have g2:Hid (MC Zka okJ W1 (w.heap.size+1) []):=MG.block c9 (a0.block _ (by omega))
 have h7:Hid (Below w.heap.size w W1):=Below.on (Below.on F s) a0
 rw [U]
 have c1:=a7.cell 1 rfl
 have c8:Hid (Rec W1 w.heap.size #[.slice na l1 nc,.slice ra m rc,.int .i64 nn,.int .i64 nr] 25/\Rec W1 (w.heap.size+1+1) #[.map (some (w.heap.size+1))] 181):=⟨a7,d5⟩
 clear u T U G b0 h6 F s a0 c9 f9 a7 d5
 go_wp2_with fail
 go_loopw [13] (fun i wr=>∃ j:Nat,j<=m/\i=.int .i64 j/\Below w.heap.size w wr/\MC Zka okJ wr (w.heap.size+1) (cnt (Zl (g.rels.take j)))/\Rec wr w.heap.size #[.slice na l1 nc,.slice ra m rc,.int .i64 nn,.int .i64 nr] 25/\Rec wr (w.heap.size+1+1) #[.map (some (w.heap.size+1))] 181) (fun i _=>m - (intOf i).toNat)
 case atStart=>exact ⟨0,Nat.zero_le _,rfl,h7.out,g2.out,c8.out.1,c8.out.2⟩
 case round =>
  obtain ⟨j,hj,rfl,z,D,I,K⟩:=hrel
  by_cases hlt:j<m
  ·have a5:(j:Int)<m:=by omega
   obtain ⟨x,o⟩:∃ q,g.rels[j]?=some q:=⟨_,List.getElem?_eq_getElem (by have:=HM.out;omega)⟩
   obtain ⟨bl,off,rfl,C,hc⟩:=g0.out.resolve_left (by intro e;rw [e] at o;simp at o)
   obtain ⟨pv,⟨d0,d1,d2,d3,d4⟩,c7,Y⟩:=hc j x o
   replace d0:=((z.mono hB).cell (p:=⟨bl,off+j*5,none⟩) C).trans d0
   replace d1:=((z.mono hB).cell (p:=⟨bl,off+j*5+1,none⟩) C).trans d1
   replace d2:=((z.mono hB).cell (p:=⟨bl,off+j*5+2,none⟩) C).trans d2
   replace d3:=((z.mono hB).cell (p:=⟨bl,off+j*5+3,none⟩) C).trans d3
   replace d4:=((z.mono hB).cell (p:=⟨bl,off+j*5+4,none⟩) C).trans d4
   obtain ⟨pa,pc,b7⟩:∃ pa pc,pv=.slice pa x.props.length pc:=by obtain ⟨pa,pc,e,_⟩:=Y;exact ⟨pa,pc,e⟩
   subst b7
   obtain ⟨d8,d9⟩:=e8.out x (List.mem_of_getElem? o)
   have e9:=Zsp o
   have h4:(Zl (g.rels.take j)).length<=200000:=by rw [Zcb];simp only [List.length_take];omega
   obtain ⟨H,E⟩:∃ W,wr.alloc (.cells #[.int .i64 x.id,.int .i64 x.fr,.int .i64 x.tt,.string x.type,.slice pa x.props.length pc] 71)=W:=⟨_,rfl⟩
   have f:Below wr.heap.size wr H:=by rw [<- E];exact (Below.refl _ _).alloc (Nat.le_refl _) _
   have rx:Rec H wr.heap.size #[.int .i64 x.id,.int .i64 x.fr,.int .i64 x.tt,.string x.type,.slice pa x.props.length pc] 71:=by rw [<- E];exact Zk _ _ _
   have hm2:MC Zka okJ H (w.heap.size+1) (cnt (Zl (g.rels.take j))):=MG.block D (f.block _ (MG.lt D))
   have h0:=MG.lt D
   obtain ⟨st,w1,w2,c,a1,a2,a3,q1,q2,q3,q4,q5,q6,q7,q8⟩:=Znb hm2 (x.fr,x.type,true) ⟨d8,c7⟩ (by omega)
   obtain ⟨i3,w3,O,c',b1,b2,b3,p1,p2,p3,p4,p5,p6,p7,p8⟩:=Znb q5 (x.tt,x.type,false) ⟨d9,c7⟩ (by simp;omega)
   have c2:Rec H (w.heap.size+1+1) #[.map (some (w.heap.size+1))] 181:=K.below f K.lt
   have e1:=c2.cell 0 rfl
   have e2:=rx.cell 1 rfl
   have e3:=rx.cell 3 rfl
   have c3:wr.heap.size≠w.heap.size+1:=by omega
   have b9:=rx.keep (q7 _ c3)
   have a8:=c2.keep (q7 _ (by omega))
   have e4:=a8.cell 0 rfl
   have e5:=b9.cell 2 rfl
   have e6:=b9.cell 3 rfl
   have d:Hid (Below w.heap.size w O/\MC Zka okJ O (w.heap.size+1) (cnt (Zl (g.rels.take (j+1))))/\Rec O w.heap.size #[.slice na l1 nc,.slice (some ⟨bl,off,none⟩) m rc,.int .i64 nn,.int .i64 nr] 25/\Rec O (w.heap.size+1+1) #[.map (some (w.heap.size+1))] 181):=by
    refine ⟨(Below.on z f).trans ((q8.mono (Nat.le_succ _)).trans (p8.mono (Nat.le_succ _))),by rw [e9];exact p5,?_,a8.keep (p7 _ (by omega))⟩
    exact ((I.below f I.lt).keep (q7 _ (by omega))).keep (p7 _ (by omega))
   simp only [Zka] at q1 q2 q3 q4 p1 p2 p3 p4
   generalize x.id=xi at *
   generalize x.fr=xf at *
   generalize x.tt=xt at *
   generalize x.type=xy at *
   generalize x.props.length=xl at *
   clear z D I K o hc Y d8 d9 e9 h4 rx b9 c2 a8 hm2 f h0 q5 q6 q7 q8 p5 p6 p7 p8 c3
   go_upto_region 5 with fail
   try rw [E]
   clear E
   apply Zir w2
   apply Exists.intro
   apply And.intro
   ·go_region_with fail
    all_goals exact ⟨rfl,rfl⟩
   ·clear q1 q2 q3 q4 e1 e2 e3
    go_upto_region 6 with fail
    apply Zir O
    apply Exists.intro
    apply And.intro
    ·go_region_with fail
     all_goals exact ⟨rfl,rfl⟩
    ·clear p1 p2 p3 p4 e4 e5 e6
     go_wp2_with fail
     go_roundw
     case rel=>exact ⟨j+1,by omega,by go_num,d.out.1,d.out.2.1,d.out.2.2.1,d.out.2.2.2⟩
     case measure=>simp [intOf];omega
  ·have a5:¬ (j:Int)<m:=by omega
   rw [List.take_of_length_le (by have:=HM.out;omega)] at D
   obtain ⟨X,hX⟩:∃ X,wr.heap.size=X:=⟨_,rfl⟩
   obtain ⟨N,u⟩:∃ W,wr.alloc (.map #[] 0)=W:=⟨_,rfl⟩
   have G:N.heap.size=X+1:=by rw [<- u,<- hX];simp
   have F:Below X wr N:=by rw [<- u,<- hX];exact (Below.refl _ _).alloc (Nat.le_refl _) _
   have d6:MI N X []:=by rw [<- u,<- hX];exact Zwh _
   obtain ⟨H,E⟩:∃ W,N.alloc (.cells #[.map (some X)] 184)=W:=⟨_,rfl⟩
   have s:Below (X+1) N H:=by rw [<- E,<- G];exact (Below.refl _ _).alloc (Nat.le_refl _) _
   have b6:Rec H (X+1) #[.map (some X)] 184:=by rw [<- E,<- G];exact Zk _ _ _
   have c6:w.heap.size<=X:=by rw [<- hX];exact z.size
   have HX:Hid (w.heap.size<=X):=c6
   have c5:=I.lt
   have f8:=K.lt
   have d7:=MG.lt D
   have d:Hid (Below w.heap.size w H/\MC Zka okJ H (w.heap.size+1) (cnt (Zl g.rels))/\Rec H w.heap.size #[.slice na l1 nc,.slice ra m rc,.int .i64 nn,.int .i64 nr] 25/\Rec H (w.heap.size+1+1) #[.map (some (w.heap.size+1))] 181/\Zug B w H X (g.nodes.take 0)/\Rec H (X+1) #[.map (some X)] 184/\X+1<H.heap.size/\w.heap.size+1+1<X):=by
    refine ⟨Below.on z (hX▸(F.trans (s.mono (Nat.le_succ _)))),MG.block (MG.block D (F.block _ (by omega))) (s.block _ (by omega)),(I.below F (by omega)).below s (by omega),(K.below F (by omega)).below s (by omega),⟨[],d6.block (s.block _ (by omega)),rfl,?_⟩,b6,b6.lt,by omega⟩
    intro j x h
    simp at h
   have c0:=d.out.2.2.1.cell 0 rfl
   clear z D I K F s d6 b6 c6 c5 f8 d7
   go_upto_region 9 with fail
   clear G u E hX a5
   go_wp2_with fail
   go_loopw [42] (fun i wr=>∃ k:Nat,k<=l1/\i=.int .i64 k/\Below w.heap.size w wr/\MC Zka okJ wr (w.heap.size+1) (cnt (Zl g.rels))/\Rec wr (w.heap.size+1+1) #[.map (some (w.heap.size+1))] 181/\Zug B w wr X (g.nodes.take k)/\Rec wr (X+1) #[.map (some X)] 184/\w.heap.size+1+1<X) (fun i _=>l1 - (intOf i).toNat)
   case atStart =>
    obtain ⟨L,R,y3,V,M,S,y7,y8⟩:=d.out
    exact ⟨0,Nat.zero_le _,rfl,L,R,V,M,S,y8⟩
   case round =>
    clear c0 d
    obtain ⟨k,hk,rfl,L,R,V,M,S,y8⟩:=hrel
    by_cases hlt2:k<l1
    ·have a9:(k:Int)<l1:=by omega
     obtain ⟨x,o⟩:∃ q,g.nodes[k]?=some q:=⟨_,List.getElem?_eq_getElem (by have:=f0.out;omega)⟩
     obtain ⟨bl,off,rfl,C,hc⟩:=g7.out.resolve_left (by intro e;rw [e] at o;simp at o)
     obtain ⟨la,lc,pv,⟨d0,d1,d2⟩,⟨s1,s2⟩,c4,Y⟩:=hc k x o
     replace d0:=((L.mono hB).cell (p:=⟨bl,off+k*3,none⟩) C).trans d0
     replace d1:=((L.mono hB).cell (p:=⟨bl,off+k*3+1,none⟩) C).trans d1
     replace d2:=((L.mono hB).cell (p:=⟨bl,off+k*3+2,none⟩) C).trans d2
     obtain ⟨pa,pc,b7⟩:∃ pa pc,pv=.slice pa x.props.length pc:=by obtain ⟨pa,pc,e,_⟩:=Y;exact ⟨pa,pc,e⟩
     subst b7
     obtain ⟨W3,a4⟩:∃ W,wr.alloc (.cells #[.int .i64 x.id,.slice la x.labels.length lc,.slice pa x.props.length pc] 73)=W:=⟨_,rfl⟩
     have f:Below wr.heap.size wr W3:=by rw [<- a4];exact (Below.refl _ _).alloc (Nat.le_refl _) _
     have rx:Rec W3 wr.heap.size #[.int .i64 x.id,.slice la x.labels.length lc,.slice pa x.props.length pc] 73:=by rw [<- a4];exact Zk _ _ _
     obtain ⟨O,f1,f2,f3,f4,f5⟩:=Jb1 (M.block (f.block _ M.lt)) o HD.out (g8.out x (List.mem_of_getElem? o)) s1 s2 c4
     have b4:Rec W3 (X+1) #[.map (some X)] 184:=S.below f S.lt
     have e1:=b4.cell 0 rfl
     have e2:=rx.cell 0 rfl
     have e3:=rx.cell 1 rfl
     have d:Hid (Below w.heap.size w O/\MC Zka okJ O (w.heap.size+1) (cnt (Zl g.rels))/\Rec O (w.heap.size+1+1) #[.map (some (w.heap.size+1))] 181/\Zug B w O X (g.nodes.take (k+1))/\Rec O (X+1) #[.map (some X)] 184/\w.heap.size+1+1<X):=by
      refine ⟨(Below.on L f).trans (f5.mono (by omega)),MG.block (MG.block R (f.block _ (MG.lt R))) (f4 _ (by omega)),(V.below f V.lt).keep (f4 _ (by omega)),f2,b4.keep (f4 _ (by omega)),y8⟩
     generalize x.id=xi at *
     generalize x.labels.length=xn at *
     generalize x.props.length=xl at *
     clear L R V M S y8 o hc c4 Y rx f2 f3 f4 f5 b4 f
     go_upto_region 12 with fail
     try rw [a4]
     clear a4
     go_wp2_with fail
     go_roundw
     case rel =>
      obtain ⟨L,R,V,M,S,y8⟩:=d.out
      exact ⟨k+1,by omega,by go_num,L,R,V,M,S,y8⟩
     case measure=>simp [intOf];omega
    ·have a9:¬ (k:Int)<l1:=by omega
     rw [List.take_of_length_le (by have:=f0.out;omega)] at M
     have HY:=Za (And.intro L (And.intro R (And.intro V (And.intro M (And.intro S y8)))))
     clear L R V M S y8
     go_wp2_with fail
     go_ret
     obtain ⟨L,R,V,M,S,y8⟩:=HY.out
     refine ⟨w.heap.size+1+1,X+1,rfl,w.heap.size+1,V,X,S,?_⟩
     exact ⟨by omega,by omega,by omega,by omega,R,M,L⟩
end Go.Proofs.YthfilnflgahcjaaGreatDoor

namespace Go.Proofs.YthfilnflgahcjaaGreatDoor
open Go.RowKit Go.Shelf
set_option linter.all false
attribute [local go_sem] Oper.semAt_some
set_option maxRecDepth 100000 in
theorem Zjg (n:Int) (w:World):Calls Tryz.prog 12 #[.int .i64 n] w fun e w'=>e=.returned (.int .i64 n)/\w'=w:=by
 go_enter Tryz.func12,Tryz.ntmps12
 go_wp2_with fail
 go_ret
 exact ⟨rfl,rfl⟩
def Ji7 (s:Zak):Bool:=decide (s.labels.length+s.types.length+s.ends.length+s.keys.length<=300)
def Jb3:List (ByteArray × Zd):=[(⟨#[107]⟩,.mk 2 false 1 ⟨#[]⟩ [] [])]
def Jz:Zx:=⟨[⟨0,[⟨#[65]⟩,⟨#[66]⟩],Jb3⟩,⟨1,[⟨#[65]⟩],Jb3⟩,⟨2,[],[]⟩],[⟨0,0,1,⟨#[84]⟩,[]⟩,⟨1,0,2,⟨#[84]⟩,[]⟩,⟨2,1,1,⟨#[85]⟩,[]⟩],3,3⟩
theorem Rec.up {w:World} {b:Nat} {cs:Array Value} {ty:TypeId} (h:Rec w b cs ty) (o:Obj):Rec (w.alloc o) b cs ty:=h.below ((Below.refl _ _).alloc (Nat.le_refl _) _) h.lt
theorem Zkm (B:Nat) (w:World):Zbq B w (.slice none 0 0) []:=⟨none,0,rfl,Nat.le_refl _,by omega,.inl rfl⟩
theorem Zuh {W:World} {b:Nat} (h:Rec W b #[.string ⟨#[107]⟩,.int .i64 2,.bool false,.int .i64 1,.string ⟨#[]⟩,.slice none 0 0,.slice none 0 0] 90):Zbq W.heap.size W (.slice (some ⟨b,0,none⟩) 1 1) Jb3:=by
 refine ⟨_,_,rfl,Nat.le_refl _,by omega,.inr ⟨b,0,rfl,h.lt,?_⟩⟩
 intro i q k
 rcases i with _ | i
 ·simp only [Jb3,List.getElem?_cons_zero,Option.some.injEq] at k
  subst k
  refine ⟨h.cell 0 rfl,by decide,_,_,_,_,_,_,⟨h.cell 1 rfl,h.cell 2 rfl,h.cell 3 rfl,h.cell 4 rfl,h.cell 5 rfl,h.cell 6 rfl⟩,?_⟩
  simp only [Zb6]
  exact ⟨none,0,none,0,rfl,⟨by decide,by decide,by decide,by decide,by decide⟩,.inl rfl,.inl (by trivial)⟩
 ·simp [Jb3] at k
theorem Zsq {W:World} {s:Nat} (m:Rec W (s+1) #[.string ⟨#[107]⟩,.int .i64 2,.bool false,.int .i64 1,.string ⟨#[]⟩,.slice none 0 0,.slice none 0 0] 90) (l:Rec W (s+1+1) #[.string ⟨#[65]⟩,.string ⟨#[66]⟩] 9) (p:Rec W (s+1+1+1) #[.string ⟨#[65]⟩] 9) (d:Rec W (s+1+1+1+1) #[.int .i64 0,.slice (some ⟨s+1+1,0,none⟩) 2 2,.slice (some ⟨s+1,0,none⟩) 1 1,.int .i64 1,.slice (some ⟨s+1+1+1,0,none⟩) 1 1,.slice (some ⟨s+1,0,none⟩) 1 1,.int .i64 2,.slice none 0 0,.slice none 0 0] 73) (a:Rec W (s+1+1+1+1+1) #[.int .i64 0,.int .i64 0,.int .i64 1,.string ⟨#[84]⟩,.slice none 0 0,.int .i64 1,.int .i64 0,.int .i64 2,.string ⟨#[84]⟩,.slice none 0 0,.int .i64 2,.int .i64 1,.int .i64 1,.string ⟨#[85]⟩,.slice none 0 0] 71):Zp W.heap.size W (.agg #[.slice (some ⟨s+1+1+1+1,0,none⟩) 3 3,.slice (some ⟨s+1+1+1+1+1,0,none⟩) 3 3,.int .i64 3,.int .i64 3]) Jz:=by
 refine ⟨_,3,_,3,rfl,⟨_,_,rfl,Nat.le_refl _,by omega,.inr ⟨_,0,rfl,d.lt,?_⟩⟩,⟨_,_,rfl,Nat.le_refl _,by omega,.inr ⟨_,0,rfl,a.lt,?_⟩⟩⟩
 ·intro i x c
  rcases i with _ | _ | _ | i
  ·simp only [Jz,List.getElem?_cons_zero,Option.some.injEq] at c
   subst c
   refine ⟨_,2,_,⟨d.cell 0 rfl,d.cell 1 rfl,d.cell 2 rfl⟩,⟨Nat.le_refl _,by omega⟩,.inr ⟨_,0,rfl,l.lt,?_⟩,Zuh m⟩
   intro i j
   match i,j with
   | 0,_=>exact ⟨l.cell 0 rfl,by decide⟩
   | 1,_=>exact ⟨l.cell 1 rfl,by decide⟩
  ·simp only [Jz,List.getElem?_cons_zero,List.getElem?_cons_succ,Option.some.injEq] at c
   subst c
   refine ⟨_,1,_,⟨d.cell 3 rfl,d.cell 4 rfl,d.cell 5 rfl⟩,⟨Nat.le_refl _,by omega⟩,.inr ⟨_,0,rfl,p.lt,?_⟩,Zuh m⟩
   intro i j
   match i,j with
   | 0,_=>exact ⟨p.cell 0 rfl,by decide⟩
  ·simp only [Jz,List.getElem?_cons_zero,List.getElem?_cons_succ,Option.some.injEq] at c
   subst c
   exact ⟨_,0,_,⟨d.cell 6 rfl,d.cell 7 rfl,d.cell 8 rfl⟩,⟨Nat.le_refl _,by omega⟩,.inl rfl,Zkm _ _⟩
  ·simp [Jz] at c
 ·intro i x c
  rcases i with _ | _ | _ | i
  ·simp only [Jz,List.getElem?_cons_zero,Option.some.injEq] at c
   subst c
   exact ⟨_,⟨a.cell 0 rfl,a.cell 1 rfl,a.cell 2 rfl,a.cell 3 rfl,a.cell 4 rfl⟩,by decide,Zkm _ _⟩
  ·simp only [Jz,List.getElem?_cons_zero,List.getElem?_cons_succ,Option.some.injEq] at c
   subst c
   exact ⟨_,⟨a.cell 5 rfl,a.cell 6 rfl,a.cell 7 rfl,a.cell 8 rfl,a.cell 9 rfl⟩,by decide,Zkm _ _⟩
  ·simp only [Jz,List.getElem?_cons_zero,List.getElem?_cons_succ,Option.some.injEq] at c
   subst c
   exact ⟨_,⟨a.cell 10 rfl,a.cell 11 rfl,a.cell 12 rfl,a.cell 13 rfl,a.cell 14 rfl⟩,by decide,Zkm _ _⟩
  ·simp [Jz] at c
theorem Zqx (w:World) (s:Nat) (f:w.heap.size=s):∃ W,((((((w.alloc (.cells #[.slice (some ⟨s+1+1+1+1,0,none⟩) 3 3,.slice (some ⟨s+1+1+1+1+1,0,none⟩) 3 3,.int .i64 3,.int .i64 3] 25)).alloc (.cells #[.string ⟨#[107]⟩,.int .i64 2,.bool false,.int .i64 1,.string ⟨#[]⟩,.slice none 0 0,.slice none 0 0] 90)).alloc (.cells #[.string ⟨#[65]⟩,.string ⟨#[66]⟩] 9)).alloc (.cells #[.string ⟨#[65]⟩] 9)).alloc (.cells #[.int .i64 0,.slice (some ⟨s+1+1,0,none⟩) 2 2,.slice (some ⟨s+1,0,none⟩) 1 1,.int .i64 1,.slice (some ⟨s+1+1+1,0,none⟩) 1 1,.slice (some ⟨s+1,0,none⟩) 1 1,.int .i64 2,.slice none 0 0,.slice none 0 0] 73)).alloc (.cells #[.int .i64 0,.int .i64 0,.int .i64 1,.string ⟨#[84]⟩,.slice none 0 0,.int .i64 1,.int .i64 0,.int .i64 2,.string ⟨#[84]⟩,.slice none 0 0,.int .i64 2,.int .i64 1,.int .i64 1,.string ⟨#[85]⟩,.slice none 0 0] 71))=W/\Rec W s #[.slice (some ⟨s+1+1+1+1,0,none⟩) 3 3,.slice (some ⟨s+1+1+1+1+1,0,none⟩) 3 3,.int .i64 3,.int .i64 3] 25/\Zp W.heap.size W (.agg #[.slice (some ⟨s+1+1+1+1,0,none⟩) 3 3,.slice (some ⟨s+1+1+1+1+1,0,none⟩) 3 3,.int .i64 3,.int .i64 3]) Jz/\Below w.heap.size w W:=by
 subst f
 have e:∀ (W:World) (o:Obj),(W.alloc o).heap.size=W.heap.size+1:=fun W o=>by simp
 refine ⟨_,rfl,?_,Zsq (s:=w.heap.size) ?_ ?_ ?_ ?_ ?_,?_⟩
 ·exact (((((Zk w _ _).up _).up _).up _).up _).up _
 ·have:=((((Zk (w.alloc (.cells #[.slice (some ⟨w.heap.size+1+1+1+1,0,none⟩) 3 3,.slice (some ⟨w.heap.size+1+1+1+1+1,0,none⟩) 3 3,.int .i64 3,.int .i64 3] 25)) #[.string ⟨#[107]⟩,.int .i64 2,.bool false,.int .i64 1,.string ⟨#[]⟩,.slice none 0 0,.slice none 0 0] 90).up (.cells #[.string ⟨#[65]⟩,.string ⟨#[66]⟩] 9)).up (.cells #[.string ⟨#[65]⟩] 9)).up (.cells #[.int .i64 0,.slice (some ⟨w.heap.size+1+1,0,none⟩) 2 2,.slice (some ⟨w.heap.size+1,0,none⟩) 1 1,.int .i64 1,.slice (some ⟨w.heap.size+1+1+1,0,none⟩) 1 1,.slice (some ⟨w.heap.size+1,0,none⟩) 1 1,.int .i64 2,.slice none 0 0,.slice none 0 0] 73)).up (.cells #[.int .i64 0,.int .i64 0,.int .i64 1,.string ⟨#[84]⟩,.slice none 0 0,.int .i64 1,.int .i64 0,.int .i64 2,.string ⟨#[84]⟩,.slice none 0 0,.int .i64 2,.int .i64 1,.int .i64 1,.string ⟨#[85]⟩,.slice none 0 0] 71)
  simp only [e] at this
  exact this
 ·have:=(((Zk ((w.alloc (.cells #[.slice (some ⟨w.heap.size+1+1+1+1,0,none⟩) 3 3,.slice (some ⟨w.heap.size+1+1+1+1+1,0,none⟩) 3 3,.int .i64 3,.int .i64 3] 25)).alloc (.cells #[.string ⟨#[107]⟩,.int .i64 2,.bool false,.int .i64 1,.string ⟨#[]⟩,.slice none 0 0,.slice none 0 0] 90)) #[.string ⟨#[65]⟩,.string ⟨#[66]⟩] 9).up (.cells #[.string ⟨#[65]⟩] 9)).up (.cells #[.int .i64 0,.slice (some ⟨w.heap.size+1+1,0,none⟩) 2 2,.slice (some ⟨w.heap.size+1,0,none⟩) 1 1,.int .i64 1,.slice (some ⟨w.heap.size+1+1+1,0,none⟩) 1 1,.slice (some ⟨w.heap.size+1,0,none⟩) 1 1,.int .i64 2,.slice none 0 0,.slice none 0 0] 73)).up (.cells #[.int .i64 0,.int .i64 0,.int .i64 1,.string ⟨#[84]⟩,.slice none 0 0,.int .i64 1,.int .i64 0,.int .i64 2,.string ⟨#[84]⟩,.slice none 0 0,.int .i64 2,.int .i64 1,.int .i64 1,.string ⟨#[85]⟩,.slice none 0 0] 71)
  simp only [e] at this
  exact this
 ·have:=((Zk (((w.alloc (.cells #[.slice (some ⟨w.heap.size+1+1+1+1,0,none⟩) 3 3,.slice (some ⟨w.heap.size+1+1+1+1+1,0,none⟩) 3 3,.int .i64 3,.int .i64 3] 25)).alloc (.cells #[.string ⟨#[107]⟩,.int .i64 2,.bool false,.int .i64 1,.string ⟨#[]⟩,.slice none 0 0,.slice none 0 0] 90)).alloc (.cells #[.string ⟨#[65]⟩,.string ⟨#[66]⟩] 9)) #[.string ⟨#[65]⟩] 9).up (.cells #[.int .i64 0,.slice (some ⟨w.heap.size+1+1,0,none⟩) 2 2,.slice (some ⟨w.heap.size+1,0,none⟩) 1 1,.int .i64 1,.slice (some ⟨w.heap.size+1+1+1,0,none⟩) 1 1,.slice (some ⟨w.heap.size+1,0,none⟩) 1 1,.int .i64 2,.slice none 0 0,.slice none 0 0] 73)).up (.cells #[.int .i64 0,.int .i64 0,.int .i64 1,.string ⟨#[84]⟩,.slice none 0 0,.int .i64 1,.int .i64 0,.int .i64 2,.string ⟨#[84]⟩,.slice none 0 0,.int .i64 2,.int .i64 1,.int .i64 1,.string ⟨#[85]⟩,.slice none 0 0] 71)
  simp only [e] at this
  exact this
 ·have:=(Zk ((((w.alloc (.cells #[.slice (some ⟨w.heap.size+1+1+1+1,0,none⟩) 3 3,.slice (some ⟨w.heap.size+1+1+1+1+1,0,none⟩) 3 3,.int .i64 3,.int .i64 3] 25)).alloc (.cells #[.string ⟨#[107]⟩,.int .i64 2,.bool false,.int .i64 1,.string ⟨#[]⟩,.slice none 0 0,.slice none 0 0] 90)).alloc (.cells #[.string ⟨#[65]⟩,.string ⟨#[66]⟩] 9)).alloc (.cells #[.string ⟨#[65]⟩] 9)) #[.int .i64 0,.slice (some ⟨w.heap.size+1+1,0,none⟩) 2 2,.slice (some ⟨w.heap.size+1,0,none⟩) 1 1,.int .i64 1,.slice (some ⟨w.heap.size+1+1+1,0,none⟩) 1 1,.slice (some ⟨w.heap.size+1,0,none⟩) 1 1,.int .i64 2,.slice none 0 0,.slice none 0 0] 73).up (.cells #[.int .i64 0,.int .i64 0,.int .i64 1,.string ⟨#[84]⟩,.slice none 0 0,.int .i64 1,.int .i64 0,.int .i64 2,.string ⟨#[84]⟩,.slice none 0 0,.int .i64 2,.int .i64 1,.int .i64 1,.string ⟨#[85]⟩,.slice none 0 0] 71)
  simp only [e] at this
  exact this
 ·have:=Zk (((((w.alloc (.cells #[.slice (some ⟨w.heap.size+1+1+1+1,0,none⟩) 3 3,.slice (some ⟨w.heap.size+1+1+1+1+1,0,none⟩) 3 3,.int .i64 3,.int .i64 3] 25)).alloc (.cells #[.string ⟨#[107]⟩,.int .i64 2,.bool false,.int .i64 1,.string ⟨#[]⟩,.slice none 0 0,.slice none 0 0] 90)).alloc (.cells #[.string ⟨#[65]⟩,.string ⟨#[66]⟩] 9)).alloc (.cells #[.string ⟨#[65]⟩] 9)).alloc (.cells #[.int .i64 0,.slice (some ⟨w.heap.size+1+1,0,none⟩) 2 2,.slice (some ⟨w.heap.size+1,0,none⟩) 1 1,.int .i64 1,.slice (some ⟨w.heap.size+1+1+1,0,none⟩) 1 1,.slice (some ⟨w.heap.size+1,0,none⟩) 1 1,.int .i64 2,.slice none 0 0,.slice none 0 0] 73)) #[.int .i64 0,.int .i64 0,.int .i64 1,.string ⟨#[84]⟩,.slice none 0 0,.int .i64 1,.int .i64 0,.int .i64 2,.string ⟨#[84]⟩,.slice none 0 0,.int .i64 2,.int .i64 1,.int .i64 1,.string ⟨#[85]⟩,.slice none 0 0] 71
  simp only [e] at this
  exact this
 ·refine ((((((Below.refl _ w).alloc (Nat.le_refl _) _).alloc ?_ _).alloc ?_ _).alloc ?_ _).alloc ?_ _).alloc ?_ _<;>simp only [e]<;>omega
set_option maxRecDepth 100000 in
set_option maxHeartbeats 8000000 in
theorem Zvz (w:World):Calls Tryz.prog 42 #[] w fun e w'=>∃ v,e=.returned v/\Zp w'.heap.size w' v Jz/\Below w.heap.size w w':=by
 obtain ⟨s,f⟩:∃ s,w.heap.size=s:=⟨_,rfl⟩
 have r:=Za (Zqx w s f)
 have g:=Za f
 clear f
 go_enter Tryz.func42,Tryz.ntmps42
 go_wp2_with fail
 obtain ⟨W,t,hr,hg,hb⟩:=r.out
 rw [g.out,t]
 have c0:=hr.cell 0 rfl
 have c1:=hr.cell 1 rfl
 have c2:=hr.cell 2 rfl
 have c3:=hr.cell 3 rfl
 refine bodyPost_ret (v:=.agg #[.slice (some ⟨s+1+1+1+1,0,none⟩) 3 3,.slice (some ⟨s+1+1+1+1+1,0,none⟩) 3 3,.int .i64 3,.int .i64 3]) ?_ rfl ⟨_,rfl,hg,g.out▸hb⟩
 simp [results,Tryz.results42,go_sem,c0,c1,c2,c3]
end Go.Proofs.YthfilnflgahcjaaGreatDoor

