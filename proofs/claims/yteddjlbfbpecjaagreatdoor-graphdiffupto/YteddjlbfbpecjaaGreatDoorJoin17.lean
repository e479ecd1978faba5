import Derived.Test.YteddjlbfbpecjaaGreatDoorJoin16
namespace Go.Proofs.YteddjlbfbpecjaaGreatDoor
set_option maxHeartbeats 8000000
set_option maxRecDepth 100000
set_option linter.all false
section
open Go.RowKit Go.Shelf
def Zc5 (k:Nat) (w:World) (g n:Nat):Prop:=∀ o,o<n*k->(w.cell? ⟨g,o,none⟩).isSome=true/\w.frozen? ⟨g,o,none⟩=false
theorem Zc5.below {k:Nat} {w w':World} {g n:Nat} (h:Zc5 k w g n) (f:Below w.heap.size w w') (l:g<w.heap.size):Zc5 k w' g n:=fun o O=>by
 rw [f.cell (p:=⟨g,o,none⟩) l,f.frozen (p:=⟨g,o,none⟩) l];exact h o O
theorem Zed (b:Nat) (a:Addr):∀ (d:List Value) (o:Nat) (w:World),(w.setCells b o d).frozen? a=w.frozen? a
 | [],o,w=>rfl
 | v::r,o,w=>by rw [World.setCells,Zed b a r,World.frozen?_setCell]
theorem Zcb (b:Nat):∀ (d:List Value) (o:Nat) (w:World),(w.setCells b o d).heap.size=w.heap.size
 | [],o,w=>rfl
 | v::r,o,w=>by rw [World.setCells,Zcb b r];simp
theorem Zdz {B b:Nat} {w:World} (f:B<=b):∀ (d:List Value) (o:Nat) (w1:World),Below B w w1->Below B w (w1.setCells b o d)
 | [],o,w1,h=>h
 | v::r,o,w1,h=>by rw [World.setCells];exact Zdz f r _ _ (h.setCell (p:=⟨b,o,none⟩) f v)
theorem Zin {b o N I:Nat} {d:List Value} {w:World} (h:N=b->I<o\/o+d.length<=I):(w.setCells b o d).cell? ⟨N,I,none⟩=w.cell? ⟨N,I,none⟩ :=
 World.cell?_setCells_out b _ o w ⟨N,I,none⟩ (fun h1 _=>h h1)
theorem Zqs {b o:Nat} {d:List Value} {w:World} (h:∀ j,j<d.length->(w.cell? ⟨b,o+j,none⟩).isSome=true) {q:Nat} {v:Value} (z:d[q]?=some v):(w.setCells b o d).cell? ⟨b,o+q,none⟩=some v:=by
 obtain ⟨C,rfl⟩:=List.getElem?_eq_some_iff.1 z
 exact World.cell?_setCells_in b d o w h q C
theorem Zc5.puts {k:Nat} {w:World} {g n o:Nat} (h:Zc5 k w g n) (d:List Value) (O:o+d.length<=n*k):Zc5 k (w.setCells g o d) g n:=fun p P=>by
 rw [Zed]
 refine ⟨?_,(h p P).2⟩
 by_cases hin:p<o\/o+d.length<=p
 ·rw [Zin (fun _=>hin)];exact (h p P).1
 ·obtain ⟨q,rfl⟩:∃ q,p=o+q:=⟨p - o,by omega⟩
  rw [Zqs (fun j X=>(h (o+j) (by omega)).1) (List.getElem?_eq_getElem (by omega))];rfl
structure Jd3 {α:Type} (E:Nat) (c:Nat->World->List Value->α->Prop):Prop where
 keep:∀ {B:Nat} {w w':World} {cs:List Value} {x:α},Zb9 E B w w'->c B w cs x->c B w' cs x
 mono:∀ {B M:Nat} {w:World} {cs:List Value} {x:α},B<=M->c B w cs x->c M w cs x
def Zbk {α:Type} (k g:Nat) (c:Nat->World->List Value->α->Prop) (B:Nat) (w:World) (xs:List α):Prop :=
 ∀ i x,xs[i]?=some x->∃ cs,cs.length=k/\(∀ q v,cs[q]?=some v->w.cell? ⟨g,i*k+q,none⟩=some v)/\c B w cs x
theorem Zfg {α:Type} {k g:Nat} {c:Nat->World->List Value->α->Prop} {B:Nat} {w:World}:Zbk k g c B w []:=fun i x h=>by simp at h
theorem Zbk.keep {α:Type} {k g E:Nat} {c:Nat->World->List Value->α->Prop} (s:Jd3 (g+1) c) {B:Nat} {w w':World} {xs:List α} (h:Zbk k g c B w xs) (K:Zb9 E B w w') (m:E<=g) (l:g<B):Zbk k g c B w' xs:=fun i x F=>by
 obtain ⟨cs,C,H,G⟩:=h i x F
 exact ⟨cs,C,fun q v z=>(K g _ m l).1.trans (H q v z),s.keep (fun b o h1 h2=>K b o (by omega) h2) G⟩
theorem Zbk.mono {α:Type} {k g:Nat} {c:Nat->World->List Value->α->Prop} (s:Jd3 (g+1) c) {B M:Nat} {w:World} {xs:List α} (h:Zbk k g c B w xs) (T:B<=M):Zbk k g c M w xs:=fun i x F=>by
 obtain ⟨cs,C,H,G⟩:=h i x F
 exact ⟨cs,C,H,s.mono T G⟩
theorem Zc5.keep {k g n E B:Nat} {w w':World} (h:Zc5 k w g n) (K:Zb9 E B w w') (m:E<=g) (l:g<B):Zc5 k w' g n:=fun o O=>by
 rw [(K g o m l).1,(K g o m l).2];exact h o O
theorem Zfh {α:Type} {k g j n:Nat} {c:Nat->World->List Value->α->Prop} (s:Jd3 (g+1) c) {xs:List α} {t:α} {wr y:World} (F:xs[j]?=some t) (l:g<wr.heap.size) (f:Below wr.heap.size wr y) (hf:Zbk k g c wr.heap.size wr (xs.take j)) {cs:List Value} (C:cs.length=k)
  (S:c y.heap.size y cs t) (R:Zc5 k y g n) (X:j<n):Zbk k g c y.heap.size (y.setCells g (j*k) cs) (xs.take (j+1)):=by
 have a0:j<xs.length:=(List.getElem?_eq_some_iff.1 F).1
 have L:∀ B,Zb9 (g+1) B y (y.setCells g (j*k) cs):=fun B b o h1 _=>⟨Zin (fun e=>by omega),Zed _ _ _ _ _⟩
 have V:j*k+k<=n*k:=by
  have:=Nat.mul_le_mul_right k (show j+1<=n by omega)
  rw [Nat.add_mul] at this;omega
 intro i u D
 rw [List.take_add_one,F] at D
 by_cases hij:i=j
 ·subst hij
  have:u=t:=by
   rw [List.getElem?_append_right (by simp;omega)] at D
   simp [show min i xs.length=i by omega] at D
   exact D.symm
  subst this
  exact ⟨cs,C,fun q v z=>Zqs (fun p P=>(R _ (by omega)).1) z,s.keep (L _) S⟩
 ·have Q:i<j:=by
   have h:=(List.getElem?_eq_some_iff.1 D).1
   simp at h;omega
  rw [List.getElem?_append_left (by simp;omega)] at D
  obtain ⟨W,Y,H,G⟩:=hf i u D
  refine ⟨W,Y,fun q v z=>?_,s.keep (L _) (s.mono f.size (s.keep (Zde f (Nat.le_refl _)) G))⟩
  have a1:=(List.getElem?_eq_some_iff.1 z).1
  have U:i*k+k<=j*k:=by
   have:=Nat.mul_le_mul_right k (show i+1<=j by omega)
   rw [Nat.add_mul] at this;omega
  rw [Zin (fun _=>.inl (by omega)),f.cell (p:=⟨g,i*k+q,none⟩) l]
  exact H q v z
end
section
open Go.RowKit Go.Shelf
structure Zo  where
 id:Int
 labels:List ByteArray
 props:List (ByteArray × Zi)
structure Jg  where
 id:Int
 fr:Int
 tt:Int
 type:ByteArray
 props:List (ByteArray × Zi)
structure Zt  where
 nodes:List Zo
 rels:List Jg
 nn:Int
 nr:Int
def Zi8 {α:Type} (k:Nat) (q:World->Nat->Nat->α->Prop) (B:Nat) (w:World) (v:Value) (xs:List α):Prop :=
 ∃ a c,v=.slice a xs.length c/\xs.length<=c/\c<=9223372036854775807/\(xs=[]\/∃ b off,a=some ⟨b,off,none⟩/\b<B/\∀ i x,xs[i]?=some x->q w b (off+i*k) x)
theorem Zi8.turn {α:Type} {k:Nat} {q o:World->Nat->Nat->α->Prop} {B:Nat} {w w':World} {v:Value} {xs:List α} (h:Zi8 k q B w v xs) (F:∀ b off x,b<B->x ∈ xs->q w b off x->o w' b off x):Zi8 k o B w' v xs:=by
 obtain ⟨a,c,e,h1,h2,h3⟩:=h
 exact ⟨a,c,e,h1,h2,h3.imp id fun ⟨b,off,e,d,H⟩=>⟨b,off,e,d,fun i x D=>F _ _ _ d (List.mem_of_getElem? D) (H i x D)⟩⟩
def Ze9 (B:Nat) (w:World) (b off:Nat) (n:Zo):Prop :=
 ∃ la lc l,(w.cell? ⟨b,off,none⟩=some (.int .i64 n.id)/\w.cell? ⟨b,off+1,none⟩=some (.slice la n.labels.length lc)/\w.cell? ⟨b,off+2,none⟩=some l)/\(n.labels.length<=lc/\lc<=9223372036854775807)/\Zab B w la n.labels/\Jd B w l n.props
def Zj3 (B:Nat) (w:World) (b off:Nat) (r:Jg):Prop :=
 ∃ l,(w.cell? ⟨b,off,none⟩=some (.int .i64 r.id)/\w.cell? ⟨b,off+1,none⟩=some (.int .i64 r.fr)/\w.cell? ⟨b,off+2,none⟩=some (.int .i64 r.tt)/\w.cell? ⟨b,off+3,none⟩=some (.string r.type)/\w.cell? ⟨b,off+4,none⟩=some l)/\r.type.size<=maxLen/\Jd B w l r.props
theorem Ze9.below {B:Nat} {w w':World} (h:Below B w w') {b off:Nat} (d:b<B) {n:Zo} (m:Ze9 B w b off n):Ze9 B w' b off n:=by
 obtain ⟨la,lc,l,⟨c0,c1,c2⟩,z,K,C⟩:=m
 exact ⟨la,lc,l,⟨(h.cell (p:=⟨b,off,none⟩) d).trans c0,(h.cell (p:=⟨b,off+1,none⟩) d).trans c1,(h.cell (p:=⟨b,off+2,none⟩) d).trans c2⟩,z,K.below h,C.below h⟩
theorem Zj3.below {B:Nat} {w w':World} (h:Below B w w') {b off:Nat} (d:b<B) {n:Jg} (m:Zj3 B w b off n):Zj3 B w' b off n:=by
 obtain ⟨l,⟨c0,c1,c2,c3,c4⟩,z,C⟩:=m
 exact ⟨l,⟨(h.cell (p:=⟨b,off,none⟩) d).trans c0,(h.cell (p:=⟨b,off+1,none⟩) d).trans c1,(h.cell (p:=⟨b,off+2,none⟩) d).trans c2,(h.cell (p:=⟨b,off+3,none⟩) d).trans c3,(h.cell (p:=⟨b,off+4,none⟩) d).trans c4⟩,z,C.below h⟩
def Jj (B:Nat) (w:World) (v:Value) (f:List Zo):Prop:=Zi8 3 (Ze9 B) B w v f
def Jt (B:Nat) (w:World) (v:Value) (E:List Jg):Prop:=Zi8 5 (Zj3 B) B w v E
theorem Jj.below {B:Nat} {w w':World} (h:Below B w w') {v:Value} {f:List Zo} (m:Jj B w v f):Jj B w' v f:=m.turn fun _ _ _ d _ h2=>h2.below h d
theorem Jt.below {B:Nat} {w w':World} (h:Below B w w') {v:Value} {f:List Jg} (m:Jt B w v f):Jt B w' v f:=m.turn fun _ _ _ d _ h2=>h2.below h d
def Zr (B:Nat) (w:World) (v:Value) (g:Zt):Prop :=
 ∃ y u t s,v=.agg #[.slice y g.nodes.length u,.slice t g.rels.length s,.int .i64 g.nn,.int .i64 g.nr]/\Jj B w (.slice y g.nodes.length u) g.nodes/\Jt B w (.slice t g.rels.length s) g.rels
theorem Zr.below {B:Nat} {w w':World} (h:Below B w w') {v:Value} {g:Zt} (m:Zr B w v g):Zr B w' v g:=by
 obtain ⟨y,u,t,s,e,h1,h2⟩:=m
 exact ⟨y,u,t,s,e,h1.below h,h2.below h⟩
def Zcc (id:Int):List Zo->Nat->Int
 | [],_=>-1
 | n::r,j=>if n.id=id then j else Zcc id r (j+1)
theorem Zrm {id:Int} {f:List Zo} {j:Nat} {n:Zo} (h:f[j]?=some n):Zcc id (f.drop j) j=if n.id=id then (j:Int) else Zcc id (f.drop (j+1)) (j+1):=by
 obtain ⟨I,G⟩:=List.getElem?_eq_some_iff.1 h
 rw [List.drop_eq_getElem_cons I,G,Zcc]
theorem Zgc (id:Int):∀ (f:List Zo) (j:Nat),decide (Zcc id f j<0)=!(f.any fun n=>n.id==id)
 | [],j=>by simp [Zcc]
 | n::r,j=>by
  rw [Zcc,List.any_cons]
  by_cases h:n.id=id
  ·rw [if_pos h];simp [h]
  ·rw [if_neg h,Zgc id r (j+1),beq_eq_false_iff_ne.2 h];rfl
end
section
open Go.RowKit Go.Shelf
attribute [local go_sem] Oper.semAt_some
def Zo0 (k B:Nat) (w:World) (cs:List Value) (q:ByteArray × Zi):Prop:=∃ v0 v1 v2 v3 v4 v5,cs=[.string q.1,v0,v1,v2,v3,v4,v5]/\q.1.size<=maxLen/\Za4 k B w (.agg #[v0,v1,v2,v3,v4,v5]) q.2
theorem Zjt (k:Nat):Jd3 k (Zo0 k) where
 keep:=fun hk ⟨v0,v1,v2,v3,v4,v5,e,G,u⟩=>⟨v0,v1,v2,v3,v4,v5,e,G,u.keep hk⟩
 mono:=fun V ⟨v0,v1,v2,v3,v4,v5,e,G,u⟩=>⟨v0,v1,v2,v3,v4,v5,e,G,u.mono (Nat.le_refl _) V⟩
def Zb6 (k B:Nat) (w:World) (v:Value) (ps:List (ByteArray × Zi)):Prop :=
 ∃ y d,v=.slice y ps.length d/\ps.length<=d/\d<=9223372036854775807/\(ps=[]\/∃ g,y=some ⟨g,0,none⟩/\k<=g/\g<B/\Zc5 7 w g ps.length/\Zbk 7 g (Zo0 (g+1)) B w ps)
theorem Zb6.lie {k B:Nat} {w:World} {v:Value} {ps:List (ByteArray × Zi)} (h:Zb6 k B w v ps):Jd B w v ps:=by
 obtain ⟨y,d,e,h1,h2,h3⟩:=h
 refine ⟨y,d,e,h1,h2,h3.imp id fun ⟨g,e,hl,M,_,hf⟩=>⟨g,0,e,M,fun i q hq=>?_⟩⟩
 obtain ⟨cs,_,t,v0,v1,v2,v3,v4,v5,rfl,G,u⟩:=hf i q hq
 rw [Nat.zero_add]
 exact ⟨t 0 _ rfl,G,v0,v1,v2,v3,v4,v5,⟨t 1 _ rfl,t 2 _ rfl,t 3 _ rfl,t 4 _ rfl,t 5 _ rfl,t 6 _ rfl⟩,u.lie⟩
theorem Zb6.keep {k B:Nat} {w w':World} {v:Value} {ps:List (ByteArray × Zi)} (hk:Zb9 k B w w') (h:Zb6 k B w v ps):Zb6 k B w' v ps:=by
 obtain ⟨y,d,e,h1,h2,h3⟩:=h
 exact ⟨y,d,e,h1,h2,h3.imp id fun ⟨g,e,hl,M,hr,hf⟩=>⟨g,e,hl,M,hr.keep hk hl M,hf.keep (Zjt _) hk hl M⟩⟩
theorem Zb6.mono {k b3 B B':Nat} {w:World} {v:Value} {ps:List (ByteArray × Zi)} (h1:b3<=k) (h2:B<=B') (h:Zb6 k B w v ps):Zb6 b3 B' w v ps:=by
 obtain ⟨y,d,e,g1,g2,h3⟩:=h
 exact ⟨y,d,e,g1,g2,h3.imp id fun ⟨g,e,hl,M,hr,hf⟩=>⟨g,e,by omega,by omega,hr,hf.mono (Zjt _) h2⟩⟩
set_option maxRecDepth 100000 in
set_option maxHeartbeats 4000000 in
theorem Zo1 (ps:List (ByteArray × Zi)) (a:Addr) (d B:Nat) (w:World) (V:B<=w.heap.size) (hp:Jd B w (.slice (some a) ps.length d) ps) (hn:ps.length<=2000000) (ht:∀ q ∈ ps,q.2.total<=2000000) :
  Calls Tryz.prog 100 #[.slice (some a) ps.length d,.func (.func 101) #[] #[]] w fun e w'=>∃ v,e=.returned v/\Zb6 w.heap.size w'.heap.size w' v ps/\Below w.heap.size w w':=by
 obtain ⟨b6,c8,e1,h1,h2,S⟩:=hp
 obtain ⟨rfl,rfl⟩:some a=b6/\d=c8:=by injection e1 with e1 _ e2;exact ⟨e1,e2⟩
 obtain ⟨i0,hi,b1,L,X⟩:=info_parts Tryz.info79
 have c9:∀ W:World,(Instr.makeSlice 45 (.int .i64 (ps.length:Int)) (.int .i64 (ps.length:Int))).run Tryz.prog W=.ok (.slice (some ⟨W.heap.size,0,none⟩) ps.length ps.length) (W.alloc (.cells (madeCells #[.string ⟨#[]⟩,.int .i64 0,.bool false,.int .i64 0,.string ⟨#[]⟩,.slice none 0 0,.slice none 0 0] (ps.length*7)) 79)):=fun W=>by
  have:=run_makeSlice (P:=Tryz.prog) W 45 79 i0 _ Tryz.underlying45 hi b1 .i64 .i64 (ps.length:Int) (ps.length:Int) (by omega) (by omega) (by rw [L];omega) (by rw [X];omega) (by omega)
  simpa [L,Value.cells] using this
 have d9:∀ W:World,(binOp .eql 45 (.slice (some a) ps.length d) (.slice none 0 0)).run Tryz.prog W=.ok (.bool false) W:=fun W=>by
  have:=Lib.run_eql_slice_nil (P:=Tryz.prog) W 45 79 (some a) ps.length d 0 0 Tryz.underlying45
  simpa using this
 obtain ⟨Y,m⟩:∃ Y,w.alloc (.cells (madeCells #[.string ⟨#[]⟩,.int .i64 0,.bool false,.int .i64 0,.string ⟨#[]⟩,.slice none 0 0,.slice none 0 0] (ps.length*7)) 79)=Y:=⟨_,rfl⟩
 have a5:Below w.heap.size w Y:=m▸(Below.refl _ _).alloc (Nat.le_refl _) _
 have Q:w.heap.size<Y.heap.size:=by rw [<- m];simp
 have r:Zc5 7 Y w.heap.size ps.length:=by
  intro o ho
  rw [<- m]
  have G:(madeCells #[.string ⟨#[]⟩,.int .i64 0,.bool false,.int .i64 0,.string ⟨#[]⟩,.slice none 0 0,.slice none 0 0] (ps.length*7)).size=ps.length*7:=size_madeCells _ _
  refine ⟨?_,?_⟩
  ·rw [Zaj _ _ _ o _ (Array.getElem?_eq_getElem (by rw [G];exact ho))];rfl
  ·have hn:=World.alloc_heap_new w (.cells (madeCells #[.string ⟨#[]⟩,.int .i64 0,.bool false,.int .i64 0,.string ⟨#[]⟩,.slice none 0 0,.slice none 0 0] (ps.length*7)) 79)
   unfold World.frozen?
   simp only [hn]
   simp
 have HP:=Zb S
 have HT:=Zb ht
 have a9:=Zb m
 clear S ht m hi b1 L X e1
 go_enter Tryz.func100,Tryz.ntmps100
 go_upto_region 4 with fail
 rw [a9.out]
 clear c9 d9 a9
 go_wp2_with fail
 go_loopw [15] (fun i wr=>∃ j:Nat,j<=ps.length/\i=.int .i64 j/\Below w.heap.size w wr/\w.heap.size<wr.heap.size/\Zc5 7 wr w.heap.size ps.length/\Zbk 7 w.heap.size (Zo0 (w.heap.size+1)) wr.heap.size wr (ps.take j)) (fun i _=>ps.length - (intOf i).toNat)
 case atStart=>exact ⟨0,Nat.zero_le _,rfl,a5,Q,r,by rw [List.take_zero];exact Zfg⟩
 case round =>
  obtain ⟨j,hj,rfl,a3,A,b2,O⟩:=hrel
  have z:=Zb a3
  have a4:=Zb b2
  have N:=Zb O
  clear a3 b2 O a5 Q r
  by_cases hlt:j<ps.length
  ·obtain ⟨bl,off,ha,d7,t⟩:=HP.out.resolve_left (by intro e;rw [e] at hlt;simp at hlt)
   obtain rfl:a=⟨bl,off,none⟩:=by simpa using ha
   obtain ⟨⟨x,⟨tk,tb,tn,ts,p,l⟩⟩,hx⟩:∃ q,ps[j]?=some q:=⟨_,List.getElem?_eq_getElem hlt⟩
   have HX:=Zb hx
   obtain ⟨cx,D,v0,v1,v2,v3,v4,v5,⟨c0,c1,c2,c3,c4,c5⟩,u⟩:=(t j _ hx).below (z.out.mono V) d7
   have E:=HT.out _ (List.mem_of_getElem? hx)
   simp only at cx D u E
   have b5:=Zb D
   have a2:=u
   simp only [Zaw] at u
   obtain ⟨b4,U,a1,T,s,_⟩:=u
   obtain ⟨rfl,rfl,rfl,rfl,rfl,rfl⟩:v0=.int .i64 tk/\v1=.bool tb/\v2=.int .i64 tn/\v3=.string ts/\v4=.slice b4 p.length U/\v5=.slice a1 l.length T:=by
    simpa using s
   have HV:=Zb a2
   clear t hx s a2 D ha
   go_upto_region 7 with fail
   generalize C:World.alloc _ _=W2
   have c:=Zl wr #[.string x,.int .i64 tk,.bool tb,.int .i64 tn,.string ts,.slice b4 p.length U,.slice a1 l.length T] 79
   rw [C] at c
   have K:Hid (Below wr.heap.size wr W2):=by rw [<- C];exact (Below.refl _ _).alloc (Nat.le_refl _) _
   have HC:=Zb (Zhi x (.mk tk tb tn ts p l) _ _ _ _ _ _ B W2 (by have:=z.out.size;have:=K.out.size;omega) (HV.out.below (K.out.mono (by omega))) E)
   have k0:=c.cell 0 rfl
   have k1:=c.cell 1 rfl
   have k2:=c.cell 2 rfl
   have k3:=c.cell 3 rfl
   have k4:=c.cell 4 rfl
   have k5:=c.cell 5 rfl
   have k6:=c.cell 6 rfl
   have e3:=c.lt
   clear C c cx c0 c1 c2 c3 c4 c5 E
   go_wp2_with fail
   refine HC.out.mono ?_
   rintro e w3 ⟨d0,d1,d2,d3,d4,d5,rfl,I,F⟩
   have b9:=Zb I
   simp only [Za4] at I
   obtain ⟨a8,R,a0,b0,s,_⟩:=I
   obtain ⟨rfl,rfl,rfl,rfl,rfl,rfl⟩:d0=.int .i64 tk/\d1=.bool tb/\d2=.int .i64 tn/\d3=.string ts/\d4=.slice a8 p.length R/\d5=.slice a0 l.length b0:=by
    simpa using s
   have H:=Zb (Za K.out F)
   have e0:wr.heap.size<w3.heap.size:=by have:=F.size;omega
   have b:=a4.out.below H.out A
   have a6:=Zb b
   obtain ⟨u0,y0⟩:=Option.isSome_iff_exists.1 (b (j*7) (by omega)).1
   obtain ⟨u1,y1⟩:=Option.isSome_iff_exists.1 (b (j*7+1) (by omega)).1
   obtain ⟨u2,y2⟩:=Option.isSome_iff_exists.1 (b (j*7+2) (by omega)).1
   obtain ⟨u3,y3⟩:=Option.isSome_iff_exists.1 (b (j*7+3) (by omega)).1
   obtain ⟨u4,y4⟩:=Option.isSome_iff_exists.1 (b (j*7+4) (by omega)).1
   obtain ⟨u5,y5⟩:=Option.isSome_iff_exists.1 (b (j*7+5) (by omega)).1
   obtain ⟨u6,y6⟩:=Option.isSome_iff_exists.1 (b (j*7+6) (by omega)).1
   have f0:=(b (j*7) (by omega)).2
   have f1:=(b (j*7+1) (by omega)).2
   have f2:=(b (j*7+2) (by omega)).2
   have f3:=(b (j*7+3) (by omega)).2
   have f4:=(b (j*7+4) (by omega)).2
   have f5:=(b (j*7+5) (by omega)).2
   have f6:=(b (j*7+6) (by omega)).2
   have HL:Hid (w.heap.size+1<=W2.heap.size):=by
    show _<=_
    omega
   clear F s b k0 k1 k2 k3 k4 k5 k6 HC
   go_upto_region 8 with fail
   clear y0 y1 y2 y3 y4 y5 y6 f0 f1 f2 f3 f4 f5 f6
   generalize a7:World.setCell _ _ _=W4
   have f:w3.setCells w.heap.size (j*7) [.string x,.int .i64 tk,.bool tb,.int .i64 tn,.string ts,.slice a8 p.length R,.slice a0 l.length b0]=W4:=by rw [<- a7];rfl
   have b8:Hid (Below w.heap.size w W4):=by
    rw [<- f]
    exact Zdz (Nat.le_refl _) _ _ _ (Za z.out H.out)
   have d6:Hid (Zc5 7 W4 w.heap.size ps.length):=by
    rw [<- f]
    exact a6.out.puts _ (by simp;omega)
   have b7:Hid (Zbk 7 w.heap.size (Zo0 (w.heap.size+1)) W4.heap.size W4 (ps.take (j+1))):=by
    rw [<- f,Zcb]
    exact Zfh (n:=ps.length) (Zjt _) HX.out A H.out N.out rfl ⟨_,_,_,_,_,_,rfl,b5.out,b9.out.mono HL.out (Nat.le_refl _)⟩ a6.out hlt
   have c7:w.heap.size<W4.heap.size:=by
    rw [<- f,Zcb];omega
   clear a7 f
   go_wp2_with fail
   go_roundw
   case rel=>exact ⟨j+1,by omega,by go_num,b8.out,c7,d6.out,b7.out⟩
   case measure=>simp [intOf];omega
  ·have d8:Hid (Zbk 7 w.heap.size (Zo0 (w.heap.size+1)) wr.heap.size wr ps):=by
    have:=N.out
    rwa [List.take_of_length_le (by omega)] at this
   go_wp2_with fail
   go_ret
   exact ⟨_,rfl,⟨_,_,rfl,Nat.le_refl _,by omega,.inr ⟨w.heap.size,rfl,Nat.le_refl _,A,a4.out,d8.out⟩⟩,z.out⟩
theorem Zju (v:Value) (ps:List (ByteArray × Zi)) (B:Nat) (w:World) (V:B<=w.heap.size) (hp:Jd B w v ps) (hn:ps.length<=2000000) (ht:∀ q ∈ ps,q.2.total<=2000000) :
  Calls Tryz.prog 100 #[v,.func (.func 101) #[] #[]] w fun e w'=>∃ v,e=.returned v/\Zb6 w.heap.size w'.heap.size w' v ps/\Below w.heap.size w w':=by
 have c6:=hp
 obtain ⟨y,d,rfl,h1,h2,h3⟩:=hp
 cases y with
 | none =>
  have h0:ps=[]:=h3.elim id fun ⟨bl,off,e,_⟩=>by cases e
  subst h0
  refine (Zi9 _ _ d w).mono ?_
  rintro e w' ⟨rfl,rfl⟩
  exact ⟨_,rfl,⟨none,0,rfl,Nat.le_refl _,by omega,.inl rfl⟩,Below.refl _ _⟩
 | some a=>exact Zo1 ps a d B w V c6 hn ht
end
section
open Go.RowKit Go.Shelf Go.WideShapes
noncomputable def RK6  : Array Oper:=Zy Tryz.f151 6
def LK6  : List Sig:=[⟨58,.fieldAddr 60 (.tmp 2) 4,0,none⟩,⟨59,.load 44 (.tmp 58),44,none⟩,⟨60,.move (.tmp 5),3,none⟩,⟨61,.indexAddr 44 (.tmp 59) (.tmp 60),0,none⟩,⟨62,.load 9 (.tmp 61),9,none⟩,⟨63,.fieldAddr 60 (.tmp 3) 4,0,none⟩,⟨64,.load 44 (.tmp 63),44,none⟩,⟨65,.move (.tmp 5),3,none⟩,⟨66,.indexAddr 44 (.tmp 64) (.tmp 65),0,none⟩,⟨67,.load 9 (.tmp 66),9,none⟩,⟨68,.binOp .neq 9 (.tmp 62) (.tmp 67) 9,4,none⟩]
theorem Jkn  : Jh RK6=LK6.map some:=by kernel_rfl
def AK6  : List (List Nat):=[[],[0],[],[1,2],[3],[],[5],[],[6,7],[8],[4,9]]
structure Zro (G H o off kl kc f d l m j:Nat) (x y:ByteArray) (c:Act):Prop where
 t2:c.eval (.tmp 2)=.pointer (some ⟨G,0,none⟩)
 t3:c.eval (.tmp 3)=.pointer (some ⟨H,0,none⟩)
 t5:c.eval (.tmp 5)=.int .i64 (j:Int)
def VKA (G H o off kl kc f d l m j:Nat) (x y:ByteArray):List Value:=[.pointer (some ⟨G,4,none⟩),.slice (some ⟨o,off,none⟩) kl kc,.int .i64 (j:Int),.pointer (some ⟨o,off+j,none⟩),.string x,.pointer (some ⟨H,4,none⟩),.slice (some ⟨f,d,none⟩) l m,.int .i64 (j:Int),.pointer (some ⟨f,d+j,none⟩),.string y,.bool true]
structure Zxe (G H o off kl kc f d l m j:Nat) (x y:ByteArray) (w:World):Prop where
 g:w.cell? ⟨G,4,none⟩=some (.slice (some ⟨o,off,none⟩) kl kc)
 lt:j<kl
 le:kl<=9223372036854775807
 cx:w.cell? ⟨o,off+j,none⟩=some (.string x)
 h:w.cell? ⟨H,4,none⟩=some (.slice (some ⟨f,d,none⟩) l m)
 lt2:j<l
 le2:l<=9223372036854775807
 cy:w.cell? ⟨f,d+j,none⟩=some (.string y)
 a1:(!(x.toList==y.toList))=true
theorem Jaw (G H o off kl kc f d l m j:Nat) (x y:ByteArray) (Q:Exit->Act->World->Prop) (base:Act) (I:World) (K:base.tmps.size=88) (z:Zro G H o off kl kc f d l m j x y base)
  (u:∀ w,Below I.heap.size I w->Zxe G H o off kl kc f d l m j x y w) (hQ:∀ c w,Zaf RK6 base c->Below I.heap.size I w->c.eval (.tmp 68)=.bool true->Q .normal c w):(Code.region 6 RK6 true).wp Tryz.prog Q base I:=by
 refine Zn (B:=Zro G H o off kl kc f d l m j x y) (T:=Zxe G H o off kl kc f d l m j x y) (n:=11) (k:=10) LK6 AK6 (VKA G H o off kl kc f d l m j x y) Jkn rfl (by kernel_rfl) (by kernel_rfl) (by kernel_rfl) (by rw [K];kernel_rfl) (fun c F=>⟨(Zc F (by kernel_rfl)).trans z.t2,(Zc F (by kernel_rfl)).trans z.t3,(Zc F (by kernel_rfl)).trans z.t5⟩) u ?_ (by decide) rfl rfl hQ
 clear K z u hQ
 iterate 11 (refine Zd ?_ (by
  intro c w z u hEq
  obtain ⟨t2,t3,t5⟩:=z
  obtain ⟨g,lt,le,cx,h,lt2,le2,cy,a1⟩:=u
  have ec:=evc c
  have ef:=evf c
  dsimp only [AK6,LK6,VKA,nth,Zbm,Za2,Jc] at hEq |-
  first
  | exact ⟨by simp only [hEq],.inr ⟨by first | exact .inl rfl | exact .inr rfl,rfl⟩⟩
  | ((try refine ⟨by simp only [hEq],.inl ⟨rfl,?_⟩⟩);first | (refine .inl fun pos af=>?_;(dsimp only [Sig.oper];generalize c.eval=ρ at *;go_simp;done)) | (refine .inl fun pos af=>?_;dsimp only [Sig.oper];generalize c.eval=ρ at *;go_simp;simp only [decide_eq_true_eq,decide_eq_false_iff_not] at *;omega))))
 exact Zf
def VKB (G H o off kl kc f d l m j:Nat) (x y:ByteArray):List Value:=[.pointer (some ⟨G,4,none⟩),.slice (some ⟨o,off,none⟩) kl kc,.int .i64 (j:Int),.pointer (some ⟨o,off+j,none⟩),.string x,.pointer (some ⟨H,4,none⟩),.slice (some ⟨f,d,none⟩) l m,.int .i64 (j:Int),.pointer (some ⟨f,d+j,none⟩),.string y,.bool false]
structure Zxf (G H o off kl kc f d l m j:Nat) (x y:ByteArray) (w:World):Prop where
 g:w.cell? ⟨G,4,none⟩=some (.slice (some ⟨o,off,none⟩) kl kc)
 lt:j<kl
 le:kl<=9223372036854775807
 cx:w.cell? ⟨o,off+j,none⟩=some (.string x)
 h:w.cell? ⟨H,4,none⟩=some (.slice (some ⟨f,d,none⟩) l m)
 lt2:j<l
 le2:l<=9223372036854775807
 cy:w.cell? ⟨f,d+j,none⟩=some (.string y)
 a1:(!(x.toList==y.toList))=false
theorem Jax (G H o off kl kc f d l m j:Nat) (x y:ByteArray) (Q:Exit->Act->World->Prop) (base:Act) (I:World) (K:base.tmps.size=88) (z:Zro G H o off kl kc f d l m j x y base)
  (u:∀ w,Below I.heap.size I w->Zxf G H o off kl kc f d l m j x y w) (hQ:∀ c w,Zaf RK6 base c->Below I.heap.size I w->c.eval (.tmp 68)=.bool false->Q .normal c w):(Code.region 6 RK6 true).wp Tryz.prog Q base I:=by
 refine Zn (B:=Zro G H o off kl kc f d l m j x y) (T:=Zxf G H o off kl kc f d l m j x y) (n:=11) (k:=10) LK6 AK6 (VKB G H o off kl kc f d l m j x y) Jkn rfl (by kernel_rfl) (by kernel_rfl) (by kernel_rfl) (by rw [K];kernel_rfl) (fun c F=>⟨(Zc F (by kernel_rfl)).trans z.t2,(Zc F (by kernel_rfl)).trans z.t3,(Zc F (by kernel_rfl)).trans z.t5⟩) u ?_ (by decide) rfl rfl hQ
 clear K z u hQ
 iterate 11 (refine Zd ?_ (by
  intro c w z u hEq
  obtain ⟨t2,t3,t5⟩:=z
  obtain ⟨g,lt,le,cx,h,lt2,le2,cy,a1⟩:=u
  have ec:=evc c
  have ef:=evf c
  dsimp only [AK6,LK6,VKB,nth,Zbm,Za2,Jc] at hEq |-
  first
  | exact ⟨by simp only [hEq],.inr ⟨by first | exact .inl rfl | exact .inr rfl,rfl⟩⟩
  | ((try refine ⟨by simp only [hEq],.inl ⟨rfl,?_⟩⟩);first | (refine .inl fun pos af=>?_;(dsimp only [Sig.oper];generalize c.eval=ρ at *;go_simp;done)) | (refine .inl fun pos af=>?_;dsimp only [Sig.oper];generalize c.eval=ρ at *;go_simp;simp only [decide_eq_true_eq,decide_eq_false_iff_not] at *;omega))))
 exact Zf
noncomputable def Jd6  : Array Oper:=Zy Tryz.f151 11
def Jgf  : List Sig:=[⟨76,.fieldAddr 60 (.tmp 2) 5,0,none⟩,⟨77,.load 58 (.tmp 76),58,none⟩,⟨78,.move (.tmp 6),3,none⟩,⟨79,.indexAddr 58 (.tmp 77) (.tmp 78),0,none⟩,⟨80,.load 60 (.tmp 79),60,none⟩,⟨81,.fieldAddr 60 (.tmp 3) 5,0,none⟩,⟨82,.load 58 (.tmp 81),58,none⟩,⟨83,.move (.tmp 6),3,none⟩,⟨84,.indexAddr 58 (.tmp 82) (.tmp 83),0,none⟩,⟨85,.load 60 (.tmp 84),60,none⟩,⟨86,.call { callee:=.value (.func 151),args:=#[.tmp 80,.tmp 85],argTypes:=#[60,60] },4,none⟩,⟨87,.unOp .not 4 (.tmp 86),4,none⟩]
theorem Jgg  : Jh Jd6=Jgf.map some:=by kernel_rfl
def Jhw  : List (List Nat):=[[],[0],[],[1,2],[3],[],[5],[],[6,7],[8],[4,9],[10]]
structure Zl9 (G H o off kl kc f d l m j:Nat) (v0 v1 v2 v3 v4 v5 N M R S O P:Value) (c:Act):Prop where
 t2:c.eval (.tmp 2)=.pointer (some ⟨G,0,none⟩)
 t3:c.eval (.tmp 3)=.pointer (some ⟨H,0,none⟩)
 t6:c.eval (.tmp 6)=.int .i64 (j:Int)
def Jko (G H o off kl kc f d l m j:Nat) (v0 v1 v2 v3 v4 v5 N M R S O P:Value):List Value:=[.pointer (some ⟨G,5,none⟩),.slice (some ⟨o,off,none⟩) kl kc,.int .i64 (j:Int),.pointer (some ⟨o,off+j*6,none⟩),.agg #[v0,v1,v2,v3,v4,v5],.pointer (some ⟨H,5,none⟩),.slice (some ⟨f,d,none⟩) l m,.int .i64 (j:Int),.pointer (some ⟨f,d+j*6,none⟩),.agg #[N,M,R,S,O,P],.bool false,.bool true]
structure Zrp (G H o off kl kc f d l m j:Nat) (v0 v1 v2 v3 v4 v5 N M R S O P:Value) (w:World):Prop where
 g:w.cell? ⟨G,5,none⟩=some (.slice (some ⟨o,off,none⟩) kl kc)
 lt:j<kl
 le:kl<=9223372036854775807
 c0:w.cell? ⟨o,off+j*6,none⟩=some (v0)
 c1:w.cell? ⟨o,off+j*6+1,none⟩=some (v1)
 c2:w.cell? ⟨o,off+j*6+2,none⟩=some (v2)
 c3:w.cell? ⟨o,off+j*6+3,none⟩=some (v3)
 c4:w.cell? ⟨o,off+j*6+4,none⟩=some (v4)
 c5:w.cell? ⟨o,off+j*6+5,none⟩=some (v5)
 h:w.cell? ⟨H,5,none⟩=some (.slice (some ⟨f,d,none⟩) l m)
 lt2:j<l
 le2:l<=9223372036854775807
 d0:w.cell? ⟨f,d+j*6,none⟩=some (N)
 d1:w.cell? ⟨f,d+j*6+1,none⟩=some (M)
 d2:w.cell? ⟨f,d+j*6+2,none⟩=some (R)
 d3:w.cell? ⟨f,d+j*6+3,none⟩=some (S)
 d4:w.cell? ⟨f,d+j*6+4,none⟩=some (O)
 d5:w.cell? ⟨f,d+j*6+5,none⟩=some (P)
 k1:Calls Tryz.prog 151 #[.agg #[v0,v1,v2,v3,v4,v5],.agg #[N,M,R,S,O,P]] w fun e w'=>e=.returned (.bool false)/\Below w.heap.size w w'
theorem Zxg (G H o off kl kc f d l m j:Nat) (v0 v1 v2 v3 v4 v5 N M R S O P:Value) (Q:Exit->Act->World->Prop) (base:Act) (I:World) (K:base.tmps.size=88) (z:Zl9 G H o off kl kc f d l m j v0 v1 v2 v3 v4 v5 N M R S O P base)
  (u:∀ w,Below I.heap.size I w->Zrp G H o off kl kc f d l m j v0 v1 v2 v3 v4 v5 N M R S O P w) (hQ:∀ c w,Zaf Jd6 base c->Below I.heap.size I w->c.eval (.tmp 87)=.bool true->Q .normal c w):(Code.region 11 Jd6 true).wp Tryz.prog Q base I:=by
 refine Zn (B:=Zl9 G H o off kl kc f d l m j v0 v1 v2 v3 v4 v5 N M R S O P) (T:=Zrp G H o off kl kc f d l m j v0 v1 v2 v3 v4 v5 N M R S O P) (n:=12) (k:=11) Jgf Jhw (Jko G H o off kl kc f d l m j v0 v1 v2 v3 v4 v5 N M R S O P) Jgg rfl (by kernel_rfl) (by kernel_rfl) (by kernel_rfl) (by rw [K];kernel_rfl) (fun c F=>⟨(Zc F (by kernel_rfl)).trans z.t2,(Zc F (by kernel_rfl)).trans z.t3,(Zc F (by kernel_rfl)).trans z.t6⟩) u ?_ (by decide) rfl rfl hQ
 clear K z u hQ
 iterate 12 (refine Zd ?_ (by
  intro c w z u hEq
  obtain ⟨t2,t3,t6⟩:=z
  obtain ⟨g,lt,le,c0,c1,c2,c3,c4,c5,h,lt2,le2,d0,d1,d2,d3,d4,d5,k1⟩:=u
  have ec:=evc c
  have ef:=evf c
  dsimp only [Jhw,Jgf,Jko,nth,Zbm,Za2,Jc] at hEq |-
  first
  | exact ⟨by simp only [hEq],.inr ⟨by first | exact .inl rfl | exact .inr rfl,rfl⟩⟩
  | ((try refine ⟨by simp only [hEq],.inl ⟨rfl,?_⟩⟩);first | (refine Zk Tryz.call151 k1 ?_;simp only [List.map_toArray,List.map_cons,List.map_nil,hEq];done) | (refine .inl fun pos af=>?_;(clear k1;dsimp only [Sig.oper];generalize c.eval=ρ at *;go_simp;done)))))
 exact Zf
def Jkp (G H o off kl kc f d l m j:Nat) (v0 v1 v2 v3 v4 v5 N M R S O P:Value):List Value:=[.pointer (some ⟨G,5,none⟩),.slice (some ⟨o,off,none⟩) kl kc,.int .i64 (j:Int),.pointer (some ⟨o,off+j*6,none⟩),.agg #[v0,v1,v2,v3,v4,v5],.pointer (some ⟨H,5,none⟩),.slice (some ⟨f,d,none⟩) l m,.int .i64 (j:Int),.pointer (some ⟨f,d+j*6,none⟩),.agg #[N,M,R,S,O,P],.bool true,.bool false]
structure Zrq (G H o off kl kc f d l m j:Nat) (v0 v1 v2 v3 v4 v5 N M R S O P:Value) (w:World):Prop where
 g:w.cell? ⟨G,5,none⟩=some (.slice (some ⟨o,off,none⟩) kl kc)
 lt:j<kl
 le:kl<=9223372036854775807
 c0:w.cell? ⟨o,off+j*6,none⟩=some (v0)
 c1:w.cell? ⟨o,off+j*6+1,none⟩=some (v1)
 c2:w.cell? ⟨o,off+j*6+2,none⟩=some (v2)
 c3:w.cell? ⟨o,off+j*6+3,none⟩=some (v3)
 c4:w.cell? ⟨o,off+j*6+4,none⟩=some (v4)
 c5:w.cell? ⟨o,off+j*6+5,none⟩=some (v5)
 h:w.cell? ⟨H,5,none⟩=some (.slice (some ⟨f,d,none⟩) l m)
 lt2:j<l
 le2:l<=9223372036854775807
 d0:w.cell? ⟨f,d+j*6,none⟩=some (N)
 d1:w.cell? ⟨f,d+j*6+1,none⟩=some (M)
 d2:w.cell? ⟨f,d+j*6+2,none⟩=some (R)
 d3:w.cell? ⟨f,d+j*6+3,none⟩=some (S)
 d4:w.cell? ⟨f,d+j*6+4,none⟩=some (O)
 d5:w.cell? ⟨f,d+j*6+5,none⟩=some (P)
 k1:Calls Tryz.prog 151 #[.agg #[v0,v1,v2,v3,v4,v5],.agg #[N,M,R,S,O,P]] w fun e w'=>e=.returned (.bool true)/\Below w.heap.size w w'
theorem Zxh (G H o off kl kc f d l m j:Nat) (v0 v1 v2 v3 v4 v5 N M R S O P:Value) (Q:Exit->Act->World->Prop) (base:Act) (I:World) (K:base.tmps.size=88) (z:Zl9 G H o off kl kc f d l m j v0 v1 v2 v3 v4 v5 N M R S O P base)
  (u:∀ w,Below I.heap.size I w->Zrq G H o off kl kc f d l m j v0 v1 v2 v3 v4 v5 N M R S O P w) (hQ:∀ c w,Zaf Jd6 base c->Below I.heap.size I w->c.eval (.tmp 87)=.bool false->Q .normal c w):(Code.region 11 Jd6 true).wp Tryz.prog Q base I:=by
 refine Zn (B:=Zl9 G H o off kl kc f d l m j v0 v1 v2 v3 v4 v5 N M R S O P) (T:=Zrq G H o off kl kc f d l m j v0 v1 v2 v3 v4 v5 N M R S O P) (n:=12) (k:=11) Jgf Jhw (Jkp G H o off kl kc f d l m j v0 v1 v2 v3 v4 v5 N M R S O P) Jgg rfl (by kernel_rfl) (by kernel_rfl) (by kernel_rfl) (by rw [K];kernel_rfl) (fun c F=>⟨(Zc F (by kernel_rfl)).trans z.t2,(Zc F (by kernel_rfl)).trans z.t3,(Zc F (by kernel_rfl)).trans z.t6⟩) u ?_ (by decide) rfl rfl hQ
 clear K z u hQ
 iterate 12 (refine Zd ?_ (by
  intro c w z u hEq
  obtain ⟨t2,t3,t6⟩:=z
  obtain ⟨g,lt,le,c0,c1,c2,c3,c4,c5,h,lt2,le2,d0,d1,d2,d3,d4,d5,k1⟩:=u
  have ec:=evc c
  have ef:=evf c
  dsimp only [Jhw,Jgf,Jkp,nth,Zbm,Za2,Jc] at hEq |-
  first
  | exact ⟨by simp only [hEq],.inr ⟨by first | exact .inl rfl | exact .inr rfl,rfl⟩⟩
  | ((try refine ⟨by simp only [hEq],.inl ⟨rfl,?_⟩⟩);first | (refine Zk Tryz.call151 k1 ?_;simp only [List.map_toArray,List.map_cons,List.map_nil,hEq];done) | (refine .inl fun pos af=>?_;(clear k1;dsimp only [Sig.oper];generalize c.eval=ρ at *;go_simp;done)))))
 exact Zf
attribute [local go_sem] Oper.semAt_some
def Za9  : List ByteArray->List ByteArray->Bool
 | [],_=>true
 | _::_,[]=>true
 | x::r,y::r'=>(x.toList==y.toList)&&Za9 r r'
mutual
def Zb3  : Zi->Zi->Bool
 | .mk k x n s ks ts,.mk k' x' n' s' D E=>!(k != k')&&((x==x')&&(!(n != n')&&((s.toList==s'.toList)&&(!((ks.length:Int) != (D.length:Int))&&(!((ts.length:Int) != (E.length:Int))&&(Za9 ks D&&alikeL ts E))))))
def alikeL  : List Zi->List Zi->Bool
 | [],_=>true
 | _::_,[]=>true
 | t::r,t'::r'=>Zb3 t t'&&alikeL r r'
end
theorem Zje {ks D:List ByteArray} {j:Nat} {x y:ByteArray} (h:ks[j]?=some x) (h':D[j]?=some y):Za9 (ks.drop j) (D.drop j)=((x.toList==y.toList)&&Za9 (ks.drop (j+1)) (D.drop (j+1))):=by
 obtain ⟨hj,hx⟩:=List.getElem?_eq_some_iff.1 h
 obtain ⟨e0,e2⟩:=List.getElem?_eq_some_iff.1 h'
 rw [List.drop_eq_getElem_cons hj,hx,List.drop_eq_getElem_cons e0,e2,Za9]
theorem Zxi {ks D:List Zi} {j:Nat} {x y:Zi} (h:ks[j]?=some x) (h':D[j]?=some y):alikeL (ks.drop j) (D.drop j)=(Zb3 x y&&alikeL (ks.drop (j+1)) (D.drop (j+1))):=by
 obtain ⟨hj,hx⟩:=List.getElem?_eq_some_iff.1 h
 obtain ⟨e0,e2⟩:=List.getElem?_eq_some_iff.1 h'
 rw [List.drop_eq_getElem_cons hj,hx,List.drop_eq_getElem_cons e0,e2,alikeL]
theorem Zxj  : ∀ (T:Zi) (B:Nat) (v v':Value) (T':Zi) (w:World),B<=w.heap.size->Zaw B w v T->Zaw B w v' T' ->
  Calls Tryz.prog 151 #[v,v'] w fun e w'=>e=.returned (.bool (Zb3 T T'))/\Below w.heap.size w w':=by
 refine Zi.ind ?_
 intro k x n s ks ts ih B v v' T' w hB hv f7
 obtain ⟨k',x',n',s',D,E⟩:=T'
 obtain ⟨res,a4⟩:∃ r,Zb3 (.mk k x n s ks ts) (.mk k' x' n' s' D E)=r:=⟨_,rfl⟩
 rw [a4]
 rw [Zb3] at a4
 have HR:=Zb a4
 simp only [Zaw] at hv f7
 obtain ⟨ka,kc,la,lc,rfl,⟨h0,h5,g9,h2,g7⟩,hk,ht⟩:=hv
 obtain ⟨e9,m,f4,c8,rfl,⟨h8,h7,h6,h4,h1⟩,e5,g4⟩:=f7
 unfold maxLen at h0 g9 g7 h6 h1
 have g6:=Zb ih
 have e8:=Zb (And.intro hk e5)
 have f3:=Zb (And.intro ht g4)
 obtain ⟨n1,a9⟩:∃ n,ks.length=n:=⟨_,rfl⟩
 obtain ⟨n2,b7⟩:∃ n,D.length=n:=⟨_,rfl⟩
 obtain ⟨Y,c6⟩:∃ n,ts.length=n:=⟨_,rfl⟩
 obtain ⟨m2,b0⟩:∃ n,E.length=n:=⟨_,rfl⟩
 have d9:=Zb a9
 have a6:=Zb b7
 have e6:=Zb c6
 have g5:=Zb b0
 rw [a9,b7,c6,b0] at HR
 rw [a9] at h5
 rw [b7] at h7
 rw [c6] at h2
 rw [b0] at h4
 rw [a9,b7,c6,b0]
 clear ih hk e5 ht g4 a4 a9 b7 c6 b0
 obtain ⟨W1,c9⟩:∃ W1,((w.alloc (.cells #[.int .i64 k,.bool x,.int .i64 n,.string s,.slice ka n1 kc,.slice la Y lc] 60)).alloc (.cells #[.int .i64 k',.bool x',.int .i64 n',.string s',.slice e9 n2 m,.slice f4 m2 c8] 60))=W1:=⟨_,rfl⟩
 have HX:Hid (∀ W,Below W1.heap.size W1 W->Below w.heap.size w W/\(∀ i v,(#[.int .i64 k,.bool x,.int .i64 n,.string s,.slice ka n1 kc,.slice la Y lc]:Array Value)[i]?=some v->W.cell? ⟨w.heap.size,i,none⟩=some v)/\(∀ i v,(#[.int .i64 k',.bool x',.int .i64 n',.string s',.slice e9 n2 m,.slice f4 m2 c8]:Array Value)[i]?=some v->W.cell? ⟨w.heap.size+1,i,none⟩=some v)):=fun W z=>by
  rw [<- c9] at z
  exact Zgl z
 have HZ:Hid (w.heap.size+1<W1.heap.size):=by
  show _<_
  rw [<- c9];simp
 have U:=Zb (HX.out W1 (Below.refl _ _)).1
 have g0:=Zb c9
 obtain ⟨_,g,h⟩:=HX.out W1 (Below.refl _ _)
 have q0:=g 0 _ rfl
 have q1:=g 1 _ rfl
 have q2:=g 2 _ rfl
 have q3:=g 3 _ rfl
 have q4:=g 4 _ rfl
 have q5:=g 5 _ rfl
 have I:=h 0 _ rfl
 have w1:=h 1 _ rfl
 have w2:=h 2 _ rfl
 have w3:=h 3 _ rfl
 have w4:=h 4 _ rfl
 have w5:=h 5 _ rfl
 clear c9 g h
 go_enter Tryz.func151,Tryz.ntmps151
 go_upto_region 1 with fail
 rw [g0.out]
 clear g0
 by_cases b1:(k != k')=true
 ·have z1:=b1
  have X:Hid (res=false):=by
   show _=_
   rw [<- HR.out,z1];rfl
  go_wp2_with fail
  go_ret
  exact ⟨by rw [X.out];rfl,U.out⟩
 ·have z1:(k != k')=false:=by simpa using b1
  clear b1
  by_cases b2:¬ x=x'
  ·have z2:(x==x')=false:=by simpa using b2
   have X:Hid (res=false):=by
    show _=_
    rw [<- HR.out,z1,z2];rfl
   cases x<;>cases x'
   ·exact absurd rfl b2
   ·clear b2 z2
    go_wp2_with fail
    go_ret
    exact ⟨by rw [X.out];rfl,U.out⟩
   ·clear b2 z2
    go_wp2_with fail
    go_ret
    exact ⟨by rw [X.out];rfl,U.out⟩
   ·exact absurd rfl b2
  ·have z2:x=x':=by simpa using b2
   clear b2
   subst z2
   have a8:Hid ((x==x)=true):=by
    show _=_
    simp
   by_cases b3:(n != n')=true
   ·have z3:=b3
    have X:Hid (res=false):=by
     show _=_
     rw [<- HR.out,z1,a8.out,z3];rfl
    go_wp2_with fail
    go_ret
    exact ⟨by rw [X.out];rfl,U.out⟩
   ·have z3:(n != n')=false:=by simpa using b3
    clear b3
    by_cases b4:(s.toList==s'.toList)=false
    ·have z4:=b4
     have X:Hid (res=false):=by
      show _=_
      rw [<- HR.out,z1,a8.out,z3,z4];rfl
     go_wp2_with fail
     go_ret
     exact ⟨by rw [X.out];rfl,U.out⟩
    ·have z4:(s.toList==s'.toList)=true:=by simpa using b4
     clear b4
     by_cases b5:((n1:Int) != (n2:Int))=true
     ·have z5:=b5
      have X:Hid (res=false):=by
       show _=_
       rw [<- HR.out,z1,a8.out,z3,z4,z5];rfl
      go_wp2_with fail
      go_ret
      exact ⟨by rw [X.out];rfl,U.out⟩
     ·have z5:((n1:Int) != (n2:Int))=false:=by simpa using b5
      clear b5
      by_cases b6:((Y:Int) != (m2:Int))=true
      ·have z6:=b6
       have X:Hid (res=false):=by
        show _=_
        rw [<- HR.out,z1,a8.out,z3,z4,z5,z6];rfl
       go_wp2_with fail
       go_ret
       exact ⟨by rw [X.out];rfl,U.out⟩
      ·have z6:((Y:Int) != (m2:Int))=false:=by simpa using b6
       clear b6
       have g8:Hid ((Za9 ks D&&alikeL ts E)=res):=by
        show _=_
        rw [<- HR.out,z1,a8.out,z3,z4,z5,z6];rfl
       have f8:Hid (n1=n2/\Y=m2):=by
        have a:=z5
        have b:=z6
        simp at a b
        exact ⟨by omega,by omega⟩
       go_wp2_with fail
       clear HR z1 a8 z3 z4 z5 z6
       obtain ⟨rfl,rfl⟩:=f8.out
       clear f8 q0 q1 q2 q3 I w1 w2 w3
       go_loopw [5] (fun i wr=>∃ j:Nat,j<=n1/\i=.int .i64 j/\Below W1.heap.size W1 wr/\(Za9 (ks.drop j) (D.drop j)&&alikeL ts E)=res) (fun i _=>n1 - (intOf i).toNat)
       case atStart=>exact ⟨0,Nat.zero_le _,rfl,Below.refl _ _,g8.out⟩
       case round =>
        clear q4 q5 w4 w5
        obtain ⟨j,hj,rfl,V,b9⟩:=hrel
        have a3:=Zb V
        have a7:=Zb b9
        have d6:w.heap.size+1<wr.heap.size:=by
         have:=HZ.out
         have:=V.size
         omega
        obtain ⟨C,g,h⟩:=HX.out wr V
        have q4:=g 4 _ rfl
        have w4:=h 4 _ rfl
        have q5:=g 5 _ rfl
        have a0:=Zb C
        clear V b9 g h C
        by_cases hlt:j<n1
        ·have a5:(j:Int)<n1:=by omega
         obtain ⟨xk,hx⟩:∃ q,ks[j]?=some q:=⟨_,List.getElem?_eq_getElem (by have:=d9.out;omega)⟩
         obtain ⟨yk,hy⟩:∃ q,D[j]?=some q:=⟨_,List.getElem?_eq_getElem (by have:=a6.out;omega)⟩
         obtain ⟨o,off,rfl,g1,hc⟩:=(e8.out.1.below (a0.out.mono hB)).resolve_left (by intro e;rw [e] at hx;simp at hx)
         obtain ⟨f,d,rfl,d7,g2⟩:=(e8.out.2.below (a0.out.mono hB)).resolve_left (by intro e;rw [e] at hy;simp at hy)
         have cx:=(hc j (by have:=d9.out;omega)).1
         have cy:=(g2 j (by have:=a6.out;omega)).1
         rw [List.getD_eq_getElem?_getD,hx] at cx
         rw [List.getD_eq_getElem?_getD,hy] at cy
         simp only [Option.getD_some] at cx cy
         have C:o<wr.heap.size:=by omega
         have A:f<wr.heap.size:=by omega
         have HE:Hid (res=(((xk.toList==yk.toList)&&Za9 (ks.drop (j+1)) (D.drop (j+1)))&&alikeL ts E)):=by
          show _=_
          rw [<- a7.out,Zje hx hy]
         have HC:Hid (∀ W,Below wr.heap.size wr W->W.cell? ⟨w.heap.size,4,none⟩=some (.slice (some ⟨o,off,none⟩) n1 kc)/\W.cell? ⟨w.heap.size+1,4,none⟩=some (.slice (some ⟨f,d,none⟩) n1 m)/\W.cell? ⟨o,off+j,none⟩=some (.string xk)/\W.cell? ⟨f,d+j,none⟩=some (.string yk)):=fun W z =>
          ⟨(z.cell (p:=⟨w.heap.size,4,none⟩) (by show w.heap.size<_;omega)).trans q4,(z.cell (p:=⟨w.heap.size+1,4,none⟩) d6).trans w4,(z.cell (p:=⟨o,off+j,none⟩) C).trans cx,(z.cell (p:=⟨f,d+j,none⟩) A).trans cy⟩
         clear hx hy hc g2
         go_upto_region 6 with fail
         clear cx cy q4 w4 q5
         show (Code.region 6 RK6 true).wp _ _ _ _
         obtain ⟨b,z⟩:∃ b,(xk.toList==yk.toList)=b:=⟨_,rfl⟩
         cases b with
         | false =>
          have e1:Hid ((!(xk.toList==yk.toList))=true):=by
           show _=_
           rw [z];rfl
          have e3:=Zb z
          clear z
          refine Jaw w.heap.size (w.heap.size+1) o off n1 kc f d n1 m j xk yk _ _ _ rfl ⟨rfl,rfl,rfl⟩ ?_ ?_
          ·intro W u
           exact ⟨(HC.out W u).1,hlt,by omega,(HC.out W u).2.2.1,(HC.out W u).2.1,hlt,by omega,(HC.out W u).2.2.2,e1.out⟩
          intro c W3 F L b8
          rw [Zj F [58,59,60,61,62,63,64,65,66,67,68] (by kernel_rfl)]
          simp only [List.foldl_cons,List.foldl_nil,List.setIfInBounds_toArray,List.set_cons_succ,List.set_cons_zero,show Zbd c 68=_ from b8]
          clear b8 F
          have a2:=Zb (Za a3.out L)
          clear L
          have X:Hid (res=false):=by
           show _=_
           rw [HE.out,e3.out];rfl
          go_wp2_with fail
          go_ret
          exact ⟨by rw [X.out];rfl,Za U.out a2.out⟩
         | true =>
          have e1:Hid ((!(xk.toList==yk.toList))=false):=by
           show _=_
           rw [z];rfl
          have e3:=Zb z
          clear z
          refine Jax w.heap.size (w.heap.size+1) o off n1 kc f d n1 m j xk yk _ _ _ rfl ⟨rfl,rfl,rfl⟩ ?_ ?_
          ·intro W u
           exact ⟨(HC.out W u).1,hlt,by omega,(HC.out W u).2.2.1,(HC.out W u).2.1,hlt,by omega,(HC.out W u).2.2.2,e1.out⟩
          intro c W3 F L b8
          rw [Zj F [58,59,60,61,62,63,64,65,66,67,68] (by kernel_rfl)]
          simp only [List.foldl_cons,List.foldl_nil,List.setIfInBounds_toArray,List.set_cons_succ,List.set_cons_zero,show Zbd c 68=_ from b8]
          clear b8 F
          have a2:=Zb (Za a3.out L)
          clear L
          have a6:Hid ((Za9 (ks.drop (j+1)) (D.drop (j+1))&&alikeL ts E)=res):=by
           show _=_
           rw [HE.out,e3.out];rfl
          go_wp2_with fail
          go_roundw
          case rel=>exact ⟨j+1,by omega,by go_num,a2.out,a6.out⟩
          case measure=>simp [intOf];omega
        ·have h3:Hid (alikeL ts E=res):=by
          show _=_
          rw [<- a7.out,List.drop_of_length_le (by have:=d9.out;omega)];rfl
         have a5:¬ (j:Int)<n1:=by omega
         have f6:=a3
         go_wp2_with fail
         clear hlt a5 a7 hj a3 q4 w4 q5 d6 a0
         go_loopw [6] (fun i wr=>∃ j:Nat,j<=Y/\i=.int .i64 j/\Below W1.heap.size W1 wr/\alikeL (ts.drop j) (E.drop j)=res) (fun i _=>Y - (intOf i).toNat)
         case atStart=>exact ⟨0,Nat.zero_le _,rfl,f6.out,h3.out⟩
         case round =>
          clear f6
          obtain ⟨j,hj,rfl,V,b9⟩:=hrel
          have a3:=Zb V
          have a7:=Zb b9
          have d6:w.heap.size+1<wr.heap.size:=by
           have:=HZ.out
           have:=V.size
           omega
          obtain ⟨C,g,h⟩:=HX.out wr V
          have q5:=g 5 _ rfl
          have w5:=h 5 _ rfl
          have a0:=Zb C
          clear V b9 g h C
          by_cases hlt:j<Y
          ·have a5:(j:Int)<Y:=by omega
           obtain ⟨⟨p0,p1,p2,p3,p4,p5⟩,hx⟩:∃ t,ts[j]?=some t:=⟨_,List.getElem?_eq_getElem (by have:=e6.out;omega)⟩
           obtain ⟨⟨r0,r1,r2,r3,r4,r5⟩,hy⟩:∃ t,E[j]?=some t:=⟨_,List.getElem?_eq_getElem (by have:=g5.out;omega)⟩
           obtain ⟨o,off,rfl,g1,f9⟩:=f3.out.1.resolve_left (by intro e;rw [e] at hx;simp at hx)
           obtain ⟨f,d,rfl,d7,d8⟩:=f3.out.2.resolve_left (by intro e;rw [e] at hy;simp at hy)
           obtain ⟨ja,jc,jl,jd,⟨c0,c1,c2,c3,c4,c5⟩,g3⟩:=(f9.below (a0.out.mono hB) g1).cells hx
           obtain ⟨e7,f0,f5,f1,⟨d0,d1,d2,d3,d4,d5⟩,f2⟩:=(d8.below (a0.out.mono hB) d7).cells hy
           have C:o<wr.heap.size:=by omega
           have A:f<wr.heap.size:=by omega
           have e4:=Zb (fun W (z:Below wr.heap.size wr W)=>g6.out _ (List.mem_of_getElem? hx) B _ _ (.mk r0 r1 r2 r3 r4 r5) W (by have:=z.size;omega) (g3.below (z.mono (by omega))) (f2.below (z.mono (by omega))))
           obtain ⟨b,z⟩:∃ b,Zb3 (.mk p0 p1 p2 p3 p4 p5) (.mk r0 r1 r2 r3 r4 r5)=b:=⟨_,rfl⟩
           rw [z] at e4
           have HE:Hid (res=(b&&alikeL (ts.drop (j+1)) (E.drop (j+1)))):=by
            show _=_
            rw [<- a7.out,Zxi hx hy,z]
           have HC:Hid (∀ W,Below wr.heap.size wr W->W.cell? ⟨w.heap.size,5,none⟩=some (.slice (some ⟨o,off,none⟩) Y lc)/\W.cell? ⟨w.heap.size+1,5,none⟩=some (.slice (some ⟨f,d,none⟩) Y c8)):=fun W z =>
            ⟨(z.cell (p:=⟨w.heap.size,5,none⟩) (by show w.heap.size<_;omega)).trans q5,(z.cell (p:=⟨w.heap.size+1,5,none⟩) d6).trans w5⟩
           clear hx hy f9 d8 g3 f2 z
           go_upto_region 11 with fail
           clear q5 w5
           show (Code.region 11 Jd6 true).wp _ _ _ _
           cases b with
           | false =>
            refine Zxg w.heap.size (w.heap.size+1) o off Y lc f d Y c8 j (.int .i64 p0) (.bool p1) (.int .i64 p2) (.string p3) (.slice ja p4.length jc) (.slice jl p5.length jd) (.int .i64 r0) (.bool r1) (.int .i64 r2) (.string r3) (.slice e7 r4.length f0) (.slice f5 r5.length f1) _ _ _ rfl ⟨rfl,rfl,rfl⟩ ?_ ?_
            ·intro W u
             exact ⟨(HC.out W u).1,hlt,by omega,(u.cell (p:=⟨o,off+j*6,none⟩) C).trans c0,(u.cell (p:=⟨o,off+j*6+1,none⟩) C).trans c1,(u.cell (p:=⟨o,off+j*6+2,none⟩) C).trans c2,(u.cell (p:=⟨o,off+j*6+3,none⟩) C).trans c3,(u.cell (p:=⟨o,off+j*6+4,none⟩) C).trans c4,(u.cell (p:=⟨o,off+j*6+5,none⟩) C).trans c5,(HC.out W u).2,hlt,by omega,(u.cell (p:=⟨f,d+j*6,none⟩) A).trans d0,(u.cell (p:=⟨f,d+j*6+1,none⟩) A).trans d1,(u.cell (p:=⟨f,d+j*6+2,none⟩) A).trans d2,(u.cell (p:=⟨f,d+j*6+3,none⟩) A).trans d3,(u.cell (p:=⟨f,d+j*6+4,none⟩) A).trans d4,(u.cell (p:=⟨f,d+j*6+5,none⟩) A).trans d5,e4.out W u⟩
            intro c W3 F L c7
            rw [Zj F [76,77,78,79,80,81,82,83,84,85,86,87] (by kernel_rfl)]
            simp only [List.foldl_cons,List.foldl_nil,List.setIfInBounds_toArray,List.set_cons_succ,List.set_cons_zero,show Zbd c 87=_ from c7]
            clear c7 F
            have a2:=Zb (Za a3.out L)
            clear L
            have X:Hid (res=false):=by
             show _=_
             rw [HE.out];rfl
            go_wp2_with fail
            go_ret
            exact ⟨by rw [X.out];rfl,Za U.out a2.out⟩
           | true =>
            refine Zxh w.heap.size (w.heap.size+1) o off Y lc f d Y c8 j (.int .i64 p0) (.bool p1) (.int .i64 p2) (.string p3) (.slice ja p4.length jc) (.slice jl p5.length jd) (.int .i64 r0) (.bool r1) (.int .i64 r2) (.string r3) (.slice e7 r4.length f0) (.slice f5 r5.length f1) _ _ _ rfl ⟨rfl,rfl,rfl⟩ ?_ ?_
            ·intro W u
             exact ⟨(HC.out W u).1,hlt,by omega,(u.cell (p:=⟨o,off+j*6,none⟩) C).trans c0,(u.cell (p:=⟨o,off+j*6+1,none⟩) C).trans c1,(u.cell (p:=⟨o,off+j*6+2,none⟩) C).trans c2,(u.cell (p:=⟨o,off+j*6+3,none⟩) C).trans c3,(u.cell (p:=⟨o,off+j*6+4,none⟩) C).trans c4,(u.cell (p:=⟨o,off+j*6+5,none⟩) C).trans c5,(HC.out W u).2,hlt,by omega,(u.cell (p:=⟨f,d+j*6,none⟩) A).trans d0,(u.cell (p:=⟨f,d+j*6+1,none⟩) A).trans d1,(u.cell (p:=⟨f,d+j*6+2,none⟩) A).trans d2,(u.cell (p:=⟨f,d+j*6+3,none⟩) A).trans d3,(u.cell (p:=⟨f,d+j*6+4,none⟩) A).trans d4,(u.cell (p:=⟨f,d+j*6+5,none⟩) A).trans d5,e4.out W u⟩
            intro c W3 F L c7
            rw [Zj F [76,77,78,79,80,81,82,83,84,85,86,87] (by kernel_rfl)]
            simp only [List.foldl_cons,List.foldl_nil,List.setIfInBounds_toArray,List.set_cons_succ,List.set_cons_zero,show Zbd c 87=_ from c7]
            clear c7 F
            have a2:=Zb (Za a3.out L)
            clear L
            have a6:Hid (alikeL (ts.drop (j+1)) (E.drop (j+1))=res):=by
             show _=_
             rw [HE.out];rfl
            go_wp2_with fail
            go_roundw
            case rel=>exact ⟨j+1,by omega,by go_num,a2.out,a6.out⟩
            case measure=>simp [intOf];omega
          ·have X:Hid (res=true):=by
            show _=_
            rw [<- a7.out,List.drop_of_length_le (by have:=e6.out;omega)];rfl
           have a5:¬ (j:Int)<Y:=by omega
           go_wp2_with fail
           go_ret
           exact ⟨by rw [X.out];rfl,a0.out⟩
end
