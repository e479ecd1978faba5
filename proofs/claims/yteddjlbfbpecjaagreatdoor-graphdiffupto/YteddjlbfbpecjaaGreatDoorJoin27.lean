import Derived.Test.YteddjlbfbpecjaaGreatDoorGtl2
namespace Go.Proofs.YteddjlbfbpecjaaGreatDoor
set_option linter.all false
section
open Go.RowKit Go.Shelf
theorem Ze9.mono {B b:Nat} (d:B<=b) {w:World} {f off:Nat} {n:Zo} (h:Ze9 B w f off n):Ze9 b w f off n:=by
 obtain ⟨la,lc,o,j,l,q,p⟩:=h
 exact ⟨la,lc,o,j,l,q.mono d,p.mono d⟩
theorem Zj3.mono {B b:Nat} (d:B<=b) {w:World} {f off:Nat} {n:Jg} (h:Zj3 B w f off n):Zj3 b w f off n:=by
 obtain ⟨o,j,l,p⟩:=h
 exact ⟨o,j,l,p.mono d⟩
theorem Jj.mono {B b:Nat} (d:B<=b) {w:World} {v:Value} {k:List Zo} (h:Jj B w v k):Jj b w v k:=by
 obtain ⟨a,c,e,h1,h2,h3⟩:=h
 exact ⟨a,c,e,h1,h2,h3.imp id fun ⟨f,off,e,r,j⟩=>⟨f,off,e,by omega,fun i x m=>(j i x m).mono d⟩⟩
theorem Jt.mono {B b:Nat} (d:B<=b) {w:World} {v:Value} {k:List Jg} (h:Jt B w v k):Jt b w v k:=by
 obtain ⟨a,c,e,h1,h2,h3⟩:=h
 exact ⟨a,c,e,h1,h2,h3.imp id fun ⟨f,off,e,r,j⟩=>⟨f,off,e,by omega,fun i x m=>(j i x m).mono d⟩⟩
theorem Zr.mono {B b:Nat} (d:B<=b) {w:World} {v:Value} {g:Zt} (h:Zr B w v g):Zr b w v g:=by
 obtain ⟨y,t,s,u,e,h1,h2⟩:=h
 exact ⟨y,t,s,u,e,h1.mono d,h2.mono d⟩
end
section
open Go.RowKit Go.Shelf
def Jcr (k:Nat) (L:Value->Prop) (w:World) (c off:Nat) (cs:List Value):Prop:=cs.length=k/\(∀ v ∈ cs,v.oneCell'=true)/\(∀ q v,cs[q]?=some v->w.cell? ⟨c,off+q,none⟩=some v)/\L (.agg cs.toArray)
theorem Zau {B:Nat} {w:World} {v:Value} {ps:List (ByteArray × Zi)} (h:Jd B w v ps):∃ f d,v=.slice f ps.length d:=by
 obtain ⟨f,d,e,_⟩:=h
 exact ⟨f,d,e⟩
def Jik {α:Type} (k:Nat) (L:Value->α->Prop) (w:World) (c off:Nat) (a:List (List Value)) (xs:List α):Prop :=
 a.length=xs.length/\∀ (i:Nat) (x:α) (cs:List Value),xs[i]?=some x->a[i]?=some cs->Jcr k (fun v=>L v x) w c (off+i*k) cs
theorem Css.app {α:Type} {k:Nat} {L:Value->α->Prop} {a des:List (List Value)} {xs ys:List α} (h:Css k L a xs) (g:Css k L des ys):Css k L (a++des) (xs++ys):=by
 refine ⟨by simp [h.1,g.1],fun i x b=>?_⟩
 by_cases hi:i<xs.length
 ·rw [List.getElem?_append_left hi] at b
  obtain ⟨cs,h1,h2⟩:=h.2 i x b
  exact ⟨cs,by rw [List.getElem?_append_left (by rw [h.1];exact hi)];exact h1,h2⟩
 ·rw [List.getElem?_append_right (by omega)] at b
  obtain ⟨cs,h1,h2⟩:=g.2 _ x b
  exact ⟨cs,by rw [List.getElem?_append_right (by rw [h.1];omega),h.1];exact h1,h2⟩
end
section
open Go.RowKit Go.Shelf
attribute [local go_sem] Oper.semAt_some
theorem below_drewN (B:Nat) (w:World) (n:Nat):Below B w (w.drewN n):=⟨rfl,rfl,rfl,Nat.le_refl _,fun _ _=>rfl⟩
theorem Zp {P:Program} {w w':World} {ops:Array Oper} {rest:List Oper} {o:Oper} {a:Act} {Q:Exit->Act->World->Prop} (p:o.guard=none) (s x:Operand) (t:TypeId)
  (F:o.op=.call { callee:=.builtin .append,args:=#[s,x],argTypes:=#[t,t] }) {v y z:Value} (A:a.eval s=v) (u:a.eval x=y) (j:(Builtin.append_ #[t,t] o.type #[v,y]).run P w=.ok z w')
  (h:wpList P ops Q rest (a.put o.dst z) w'):wpList P ops Q (o::rest) a w:=by
 refine wpList_plain p fun K C=>?_
 unfold Oper.wp execOp
 simp only [F,resolve,invoke,builtin,Sem.run_bind,Sem.run_pure,Result.andThen_ok,List.map_toArray,List.map_cons,List.map_nil,A,u,j]
 exact C _ _ h
theorem Tryz.info49  : (Tryz.prog.info? 49).map (fun i=>(i.zero,i.size,i.bytes))=some (some (.agg #[.int .i64 0,.int .i64 0,.int .i64 0,.string ⟨#[]⟩,.slice none 0 0]),5,64):=by kernel_rfl
def Zid {α:Type} (key:α->Int) (n:α):List α->List α
 | []=>[n]
 | x::r=>if key x<key n then x::Zid key n r else if key x=key n then n::r else n::x::r
def Zfc {α:Type} (key:α->Int) (id:Int) (l:List α):List α:=l.filter fun x=>key x != id
theorem Zlg {α:Type} {key:α->Int} {n:α}:∀ {l:List α} {x:α},x ∈ Zid key n l->x=n\/x ∈ l
 | [],x,h=>by simp [Zid] at h;exact .inl h
 | y::r,x,h=>by
  rw [Zid] at h
  split at h
  ·rcases List.mem_cons.1 h with rfl | h
   ·exact .inr List.mem_cons_self
   ·exact (Zlg h).imp id (List.mem_cons_of_mem _)
  ·split at h
   ·rcases List.mem_cons.1 h with rfl | h
    ·exact .inl rfl
    ·exact .inr (List.mem_cons_of_mem _ h)
   ·rcases List.mem_cons.1 h with rfl | h
    ·exact .inl rfl
    ·exact .inr h
def Jei {α:Type} (k:Nat) (L:Value->α->Prop) (Q:Nat->Prop) (w:World) (v:Value) (xs:List α):Prop :=
 ∃ a c b,v=.slice a xs.length c/\xs.length<=c/\c<=9223372036854775807/\Css k L b xs/\(∀ c ∈ b,∀ v ∈ c,v.oneCell'=true)/\(xs=[]\/∃ f off,a=some ⟨f,off,none⟩/\f<w.heap.size/\Q f/\Jik k L w f off b xs)
theorem Jej {α:Type} {e k base n:Nat} {L:Value->α->Prop} {w:World} {v:Value} {b:List (List Value)} {xs:List α} (h:w.ownsRow base e k v n b.flatten) (m:Css k L b xs) (h1:∀ c ∈ b,∀ v ∈ c,v.oneCell'=true) (N:n=xs.length):Jei k L (fun f=>base<=f) w v xs:=by
 subst N
 have I:=h
 obtain ⟨_,⟨g2,g3⟩ | ⟨g,cap,cur,g2,g3,G,D,H,_⟩⟩:=h
 ·have:xs=[]:=List.eq_nil_of_length_eq_zero g3
  subst this
  exact ⟨none,0,b,g2,by simp,by omega,m,h1,.inl rfl⟩
 ·subst g2
  refine ⟨_,cap,b,rfl,D,by simp only [maxLen] at H;omega,m,h1,.inr ⟨g,0,rfl,(Array.getElem?_eq_some_iff.1 G).1,g3,m.1,fun i x cs u d=>?_⟩⟩
  obtain ⟨E,k1,k2,k3⟩:=m.2 i x u
  rw [d] at k1
  obtain rfl:=Option.some.inj k1
  exact ⟨k2,h1 cs (List.mem_of_getElem? d),fun q v M=>by rw [Nat.zero_add];exact Zgm I m.all d M,k3⟩
end
section
open Go.RowKit Go.Shelf
attribute [local go_sem] Oper.semAt_some
theorem Zmi {E:List (Int × Value)} (c:(E.map Prod.fst).Nodup) {i j:Nat} {k:Int} {u v:Value} (b:E[i]?=some (k,u)) (d:E[j]?=some (k,v)):i=j:=by
 have h1:=(List.getElem?_eq_some_iff.1 b)
 have h2:=(List.getElem?_eq_some_iff.1 d)
 obtain ⟨l1,e1⟩:=h1
 obtain ⟨l2,e2⟩:=h2
 have a:=List.pairwise_iff_getElem.1 c
 rcases Nat.lt_trichotomy i j with h | h | h
 ·exact absurd (by rw [List.getElem_map,List.getElem_map,e1,e2]) (a i j (by simpa using l1) (by simpa using l2) h)
 ·exact h
 ·exact absurd (by rw [List.getElem_map,List.getElem_map,e1,e2]) (a j i (by simpa using l2) (by simpa using l1) h)
end
