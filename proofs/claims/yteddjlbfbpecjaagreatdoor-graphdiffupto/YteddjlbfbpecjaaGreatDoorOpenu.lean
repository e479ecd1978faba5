import Derived.Test.YteddjlbfbpecjaaGreatDoorJoin35
namespace Go.Proofs.YteddjlbfbpecjaaGreatDoor
open Go.ChangeShapes Go.WideShapes Go.ChangeAt Go.RowKit Go.Shelf Go.Deep
set_option maxRecDepth 100000
set_option linter.all false
theorem Zxz  : Tryz.prog.cellsOf 47=3:=by kernel_rfl
theorem Zx0  : Tryz.prog.cellsOf 49=5:=by kernel_rfl
theorem Jdl  : Tryz.prog.cellsOf 25=4:=by kernel_rfl
theorem Jdm  : Tryz.prog.cellsOf 22=1:=by kernel_rfl
theorem Jdn  : Tryz.prog.cellsOf 23=1:=by kernel_rfl
theorem Zdb  : ∀ ks:List ByteArray,0<=Zx ks
 | []=>by simp [Zx]
 | k::ks=>by
  have:=Zdb ks
  simp only [Zx,List.map_cons,List.sum_cons] at this |-
  omega
theorem Zpy (a b:List (Int × Zi)):Jb (a++b)=Jb a+Jb b:=by
 unfold Jb;rw [List.map_append,List.sum_append]
mutual
theorem Zhd  : ∀ (T:Zi) (d:Int),(T.height:Int)<=T.total/\Jb (T.pre d)<=T.total/\1<=T.total
 | .mk k b n s ks ts,d=>by
  obtain ⟨h1,h2,h3⟩:=totalL_bounds ts (d+1)
  have h4:=Zdb ks
  have e:Jb ((d,Zi.mk k b n s ks ts)::Zi.preL (d+1) ts)=((s.size:Int)+Zx ks)+Jb (Zi.preL (d+1) ts):=by
   simp [Jb,Zi.bytes,Zi.text,Zi.keys]
  rw [Zi.height,Zi.total,Zi.pre,e]
  refine ⟨?_,?_,?_⟩<;>omega
theorem totalL_bounds  : ∀ (ts:List Zi) (d:Int),(Zi.heightL ts:Int)<=Zi.totalL ts/\Jb (Zi.preL d ts)<=Zi.totalL ts/\0<=Zi.totalL ts
 | [],d=>by simp [Zi.heightL,Zi.totalL,Zi.preL,Jb]
 | t::ts,d=>by
  obtain ⟨h1,h2,h3⟩:=Zhd t d
  obtain ⟨g1,g2,g3⟩:=totalL_bounds ts d
  rw [Zi.heightL,Zi.totalL,Zi.preL,Zpy]
  refine ⟨?_,?_,?_⟩<;>omega
end
theorem Zoi {T:Zi} (h:T.total<=2000000):Zas T:=by
 have:=Zhd T 1
 exact ⟨by omega,by omega⟩
theorem Ja3 {H:Type} (d:DataW H):1<=Rows.uptoBulk d:=by
 cases d with
 | lit l=>cases l<;>simp [Rows.uptoBulk]
 | nil=>simp [Rows.uptoBulk]
 | ptr d=>simp [Rows.uptoBulk]
 | slice v spare=>simp [Rows.uptoBulk]
 | agg parts=>simp [Rows.uptoBulk]
 | iface t d=>simp [Rows.uptoBulk]
 | map entries=>simp [Rows.uptoBulk]
 | held h=>simp [Rows.uptoBulk]
theorem Zeo {H:Type} {d:DataW H} {l:List (DataW H)} (h:d ∈ l):Rows.uptoBulk d<=Rows.uptoBulkAll l:=by
 induction l with
 | nil=>cases h
 | cons x r ih =>
  simp only [Rows.uptoBulkAll]
  cases List.mem_cons.1 h with
  | inl e=>subst e;omega
  | inr e=>have:=ih e;omega
theorem Zhy {H:Type} (l:List (DataW H)):l.length<=Rows.uptoBulkAll l:=by
 induction l with
 | nil=>simp [Rows.uptoBulkAll]
 | cons x r ih=>have:=Ja3 x;simp only [Rows.uptoBulkAll,List.length_cons];omega
theorem Zc0 {H:Type} (s:ByteArray):Rows.uptoBulk (DataW.lit (H:=H) (.string s.data.toList))=s.size+1:=by
 simp [Rows.uptoBulk]
theorem Zoj {H:Type}:∀ (ss:List ByteArray),(ss.length:Int)+Zx ss=Rows.uptoBulkAll (strs (H:=H) ss)
 | []=>by simp [Zx,strs,Rows.uptoBulkAll]
 | s::ss=>by
  have:=Zoj (H:=H) ss
  unfold strs at this |-
  rw [List.map_cons,Rows.uptoBulkAll,Zc0]
  simp only [Zx,List.map_cons,List.sum_cons,List.length_cons] at this |-
  omega
theorem Zjf {H:Type}:∀ (l:List Zi) (es:List (DataW H)),l.length=es.length->(∀ (i:Nat) (t:Zi) (e:DataW H),l[i]?=some t->es[i]?=some e->t.total<=Rows.uptoBulk e)->Zi.totalL l<=Rows.uptoBulkAll es
 | [],[],_,_=>by simp [Zi.totalL,Rows.uptoBulkAll]
 | [],_::_,h,_=>by simp at h
 | _::_,[],h,_=>by simp at h
 | t::l,e::es,h,ht=>by
  have h1:=ht 0 t e rfl rfl
  have h2:=Zjf l es (by simpa using h) fun i u f hu z=>ht (i+1) u f (by simpa using hu) (by simpa using z)
  rw [Zi.totalL,Rows.uptoBulkAll]
  omega
section
variable {H:Type} {enc:TypeId × Value->H} {W:World}
theorem Zjg {w:Nat} {u:Value} {y:DataW H × List MemPlace} (h:DataW.trod enc Tryz.prog W 0 (fun _=>true) true w 44 [u]=some y) :
  ∃ (la:Option Addr) (lc:Nat) (ks:List ByteArray),u=.slice la ks.length lc/\ks.length<=lc/\lc<=maxLen/\Zab W.heap.size W la ks/\(ks.length:Int)+Zx ks+1<=Rows.uptoBulk y.1/\∀ x ∈ ks,x.size+1<=Rows.uptoBulk y.1:=by
 rcases open_strings Tryz.underlying44 Tryz.underlying9 Zqu h with ⟨e4,e5⟩ | ⟨a,len,cap,ss,e4,_,d4,b3,b7,b9,o,b5⟩
 ·simp only [List.cons.injEq,and_true] at e4
  subst e4 e5
  exact ⟨none,0,[],rfl,Nat.le_refl _,by unfold maxLen;omega,.inl rfl,by simp [Zx,Rows.uptoBulk],by simp⟩
 ·simp only [List.cons.injEq,and_true] at e4
  subst e4
  simp only [if_true] at b7
  have e:(ss.take len).length=len:=by simp;omega
  have d3:=Zoj (H:=H) (ss.take len)
  have a1:Rows.uptoBulkAll (strs (H:=H) (ss.take len))+1<=Rows.uptoBulk y.1:=by
   rw [b9];simp only [Rows.uptoBulk];omega
  refine ⟨some a,cap,ss.take len,by rw [e],by omega,b3,?_,by omega,?_⟩
  ·by_cases h0:len=0
   ·left;subst h0;simp
   ·right
    obtain ⟨bk,off,E⟩:=a
    have c0:=o 0 (by omega)
    have B:E=none:=by simpa [Addr.add] using World.cell?_spot c0
    subst B
    refine ⟨bk,off,rfl,Zaq c0,fun i Y=>?_⟩
    rw [e] at Y
    have hg:(ss.take len).getD i ⟨#[]⟩=ss.getD i ByteArray.empty:=by
     rw [List.getD_eq_getElem?_getD,List.getElem?_take_of_lt Y,List.getD_eq_getElem?_getD];rfl
    rw [hg,<- add_plain]
    refine ⟨o i (by omega),?_⟩
    rw [List.getD_eq_getElem?_getD,List.getElem?_eq_getElem (by omega)]
    exact b5 _ (List.getElem_mem _)
  ·intro x C
   have h1:Rows.uptoBulk (DataW.lit (H:=H) (.string x.data.toList))<=Rows.uptoBulkAll (strs (H:=H) (ss.take len)):=Zeo (by unfold strs;exact List.mem_map.2 ⟨x,C,rfl⟩)
   rw [Zc0] at h1
   omega
def Jb6 (enc:TypeId × Value->H) (W:World) (w:Nat):Prop:=∀ (cs:List Value) (d:DataW H) (p:List MemPlace),DataW.trod enc Tryz.prog W 0 (fun _=>true) true w 60 cs=some (d,p) ->
 Rows.uptoBulk d<=1048576->∃ T,Zaw W.heap.size W (.agg cs.toArray) T/\Zln T/\T.total<=Rows.uptoBulk d
theorem Ztt {w:Nat} (ih:∀ m,m<w->Jb6 enc W m) {cs:List Value} {d:DataW H} {p:List MemPlace} (h:DataW.trod enc Tryz.prog W 0 (fun _=>true) true w 58 cs=some (d,p))
  (hw:Rows.uptoBulk d<=1048576) :
  ∃ (la:Option Addr) (lc:Nat) (ts:List Zi),cs=[.slice la ts.length lc]/\ts.length<=lc/\lc<=maxLen/\ts.length<=140737488355328/\Zbi W.heap.size W la ts/\SaneL ts/\Zi.totalL ts+1<=Rows.uptoBulk d:=by
 rcases DataW.trod_slice Tryz.underlying58 h with ⟨rfl,h0⟩ | ⟨a,len,cap,v,rest,n,O,rfl,C,_,N,hm,A,R,_,_⟩
 ·simp only [Prod.mk.injEq] at h0
  obtain ⟨rfl,_⟩:=h0
  exact ⟨none,0,[],rfl,Nat.le_refl _,by unfold maxLen;omega,by simp,.inl rfl,by simp only [SaneL],by simp [Zi.totalL,Rows.uptoBulk]⟩
 ·simp only [Prod.mk.injEq] at C
  obtain ⟨rfl,_⟩:=C
  have a9:Rows.uptoBulkAll (v.map (·.1))+1<=Rows.uptoBulk (DataW.slice (v.map (·.1)) (rest.map (·.1))):=by simp only [Rows.uptoBulk];omega
  have V:=Zhy (v.map (·.1))
  rw [List.length_map] at V
  have hc:∀ i,i<len->∃ t:Zi,(∃ v0 v1 v2 v3 v4 v5,(W.cell? ((a.add (i*6)).add 0)=some v0/\W.cell? ((a.add (i*6)).add 1)=some v1/\W.cell? ((a.add (i*6)).add 2)=some v2/\W.cell? ((a.add (i*6)).add 3)=some v3/\W.cell? ((a.add (i*6)).add 4)=some v4/\W.cell? ((a.add (i*6)).add 5)=some v5) /\
    Zaw W.heap.size W (.agg #[v0,v1,v2,v3,v4,v5]) t)/\Zln t/\∀ e,(v.map (·.1))[i]?=some e->t.total<=Rows.uptoBulk e:=by
   intro i Y
   have key:=R i Y
   rw [Zpe,List.getElem?_eq_getElem (by omega)] at key
   obtain ⟨a2,h1,h2⟩:=Option.bind_eq_some_iff.1 key
   obtain ⟨_,a3,o⟩:=World.cells?_some h1
   have K:(v[i]'(by omega)).1 ∈ v.map (·.1):=List.mem_map.2 ⟨_,List.getElem_mem (by omega),rfl⟩
   obtain ⟨v0,v1,v2,v3,v4,v5,rfl⟩:∃ v0 v1 v2 v3 v4 v5,a2=[v0,v1,v2,v3,v4,v5]:=by
    match a2,a3 with
    | [v0,v1,v2,v3,v4,v5],_=>exact ⟨_,_,_,_,_,_,rfl⟩
   obtain ⟨T,hT,hS,hB⟩:=ih n (by omega) _ _ _ h2 (Nat.le_trans (Zeo K) (by omega))
   refine ⟨T,⟨v0,v1,v2,v3,v4,v5,⟨o 0 (by omega),o 1 (by omega),o 2 (by omega),o 3 (by omega),o 4 (by omega),o 5 (by omega)⟩,hT⟩,hS,fun e he=>?_⟩
   rw [List.getElem?_map,List.getElem?_eq_getElem (by omega)] at he
   simp only [Option.map_some,Option.some.injEq] at he
   rw [<- he];exact hB
  have:Inhabited Zi:=⟨.mk 0 false 0 ⟨#[]⟩ [] []⟩
  obtain ⟨f,z⟩:=choose_lt hc
  have S:((List.range len).map f).length=len:=by simp
  have d1:Zi.totalL ((List.range len).map f)<=Rows.uptoBulkAll (v.map (·.1)):=by
   refine Zjf _ _ (by simp [A]) fun i t e Y he=>?_
   rw [List.getElem?_map] at Y
   obtain ⟨j,L,rfl⟩:=Option.map_eq_some_iff.1 Y
   rw [List.getElem?_eq_some_iff] at L
   obtain ⟨F,G⟩:=L
   simp only [List.length_range,List.getElem_range] at F G
   subst G
   exact (z _ F).2.2 e he
  refine ⟨some a,cap,(List.range len).map f,by rw [S],by omega,hm,by omega,?_,?_,by omega⟩
  ·by_cases h0:len=0
   ·left;subst h0;rfl
   ·right
    obtain ⟨bl,off,E⟩:=a
    obtain ⟨v0,_,_,_,_,_,⟨c0,_⟩,_⟩:=(z 0 (by omega)).1
    have B:E=none:=by simpa [Addr.add] using World.cell?_spot c0
    subst B
    refine ⟨bl,off,rfl,Zaq c0,Zvl _ _ ?_⟩
    intro i t hit
    rw [List.getElem?_map] at hit
    obtain ⟨j,L,rfl⟩:=Option.map_eq_some_iff.1 hit
    rw [List.getElem?_eq_some_iff] at L
    obtain ⟨F,G⟩:=L
    simp only [List.length_range,List.getElem_range] at F G
    subst G
    obtain ⟨v0,v1,v2,v3,v4,v5,⟨c0,c1,c2,c3,c4,c5⟩,hv⟩:=(z _ F).1
    rw [add_plain,add_plain] at c0 c1 c2 c3 c4 c5
    exact ⟨v0,v1,v2,v3,v4,v5,⟨c0,c1,c2,c3,c4,c5⟩,hv⟩
  ·refine Zvm _ fun t ht=>?_
   obtain ⟨j,L,rfl⟩:=List.mem_map.1 ht
   exact (z j (List.mem_range.1 L)).2.1
theorem Zpz  : ∀ w,Jb6 enc W w:=by
 intro w
 induction w using Nat.strongRecOn with
 | _ w ih =>
  intro cs d p h hw
  obtain ⟨xs,n,O,C,N,A,z⟩:=DataW.trod_struct Tryz.underlying60 h
  rw [Zpe] at N
  match cs,N with
  | [v0,v1,v2,v3,v4,v5],_ =>
   match xs,A with
   | [y0,y1,y2,y3,y4,y5],_ =>
    simp only [Prod.mk.injEq] at C
    obtain ⟨rfl,_⟩:=C
    have f0:DataW.trod enc Tryz.prog W 0 (fun _=>true) true n 57 [v0]=some y0:=by simpa [Jcq] using z 0 { name := "Kind",type:=57,offset:=0,embedded:=false,tag := "",pkgPath := "",byteOffset:=0 } rfl
    have f1:DataW.trod enc Tryz.prog W 0 (fun _=>true) true n 4 [v1]=some y1:=by simpa [Jew] using z 1 { name := "Bool",type:=4,offset:=1,embedded:=false,tag := "",pkgPath := "",byteOffset:=8 } rfl
    have f2:DataW.trod enc Tryz.prog W 0 (fun _=>true) true n 2 [v2]=some y2:=by simpa [Zir] using z 2 { name := "Int",type:=2,offset:=2,embedded:=false,tag := "",pkgPath := "",byteOffset:=16 } rfl
    have f3:DataW.trod enc Tryz.prog W 0 (fun _=>true) true n 9 [v3]=some y3:=by simpa [Zqu] using z 3 { name := "Text",type:=9,offset:=3,embedded:=false,tag := "",pkgPath := "",byteOffset:=24 } rfl
    have f4:DataW.trod enc Tryz.prog W 0 (fun _=>true) true n 44 [v4]=some y4:=by simpa [Zvk] using z 4 { name := "Keys",type:=44,offset:=4,embedded:=false,tag := "",pkgPath := "",byteOffset:=40 } rfl
    have f5:DataW.trod enc Tryz.prog W 0 (fun _=>true) true n 58 [v5]=some y5:=by simpa [Jcp] using z 5 { name := "List",type:=58,offset:=5,embedded:=false,tag := "",pkgPath := "",byteOffset:=64 } rfl
    obtain ⟨k,e0,_,_⟩:=DataW.trod_int Tryz.underlying57 f0
    obtain ⟨b,e1,_⟩:=DataW.trod_bool Tryz.underlying4 f1
    obtain ⟨m,e2,_,_⟩:=DataW.trod_int Tryz.underlying2 f2
    obtain ⟨s,e3,a8,P⟩:=DataW.trod_string Tryz.underlying9 f3
    simp only [List.cons.injEq,and_true] at e0 e1 e2 e3
    subst e0 e1 e2 e3
    have b4:Rows.uptoBulk y3.1=s.size+1:=by rw [a8];exact Zc0 s
    have a1:Rows.uptoBulk y0.1+Rows.uptoBulk y1.1+Rows.uptoBulk y2.1+Rows.uptoBulk y3.1+Rows.uptoBulk y4.1+Rows.uptoBulk y5.1+1=Rows.uptoBulk (DataW.agg ([y0,y1,y2,y3,y4,y5].map (·.1))):=by
     simp only [List.map_cons,List.map_nil,Rows.uptoBulk,Rows.uptoBulkAll];omega
    have a4:Rows.uptoBulk (DataW.agg ([y0,y1,y2,y3,y4,y5].map (·.1)))<=1048576:=hw
    obtain ⟨la,lc,ts,e5,g1,g2,g3,g4,g5,g6⟩:=Ztt (fun m hm=>ih m (by omega)) f5 (by omega)
    simp only [List.cons.injEq,and_true] at e5
    subst e5
    obtain ⟨ka,kc,ks,e4,k1,k2,k3,k4,k5⟩:=Zjg f4
    subst e4
    have kp:=Zdb ks
    refine ⟨.mk k b m s ks ts,?_,?_,?_⟩
    ·rw [Zaw]
     exact ⟨ka,kc,la,lc,rfl,⟨P,k1,k2,g1,g2⟩,k3,g4⟩
    ·rw [Zln]
     exact ⟨by omega,by omega,g3,fun x C=>by have:=k5 x C;omega,g5⟩
    ·rw [Zi.total]
     show _<=((Rows.uptoBulk (DataW.agg ([y0,y1,y2,y3,y4,y5].map (·.1))):Nat):Int)
     omega
def Zr5 (b:Nat) (ps:List (ByteArray × Zi)):Prop:=ps.length<=b/\∀ q ∈ ps,q.1.size<=b/\Zln q.2/\q.2.total<=b
def Zdh (b:Nat) (n:Zo):Prop:=I64 n.id/\n.labels.length<=b/\(∀ x ∈ n.labels,x.size<=b)/\Zr5 b n.props
def Zfa (b:Nat) (r:Jg):Prop:=(I64 r.id/\I64 r.fr/\I64 r.tt)/\r.type.size<=b/\Zr5 b r.props
theorem Ztu {w:Nat} {cs:List Value} {d:DataW H} {p:List MemPlace} (h:DataW.trod enc Tryz.prog W 0 (fun _=>true) true w 79 cs=some (d,p)) (hw:Rows.uptoBulk d<=1048576) :
  ∃ (q:ByteArray × Zi) (v0 v1 v2 v3 v4 v5:Value),cs=[.string q.1,v0,v1,v2,v3,v4,v5]/\q.1.size<=maxLen/\Zaw W.heap.size W (.agg #[v0,v1,v2,v3,v4,v5]) q.2/\q.1.size<=1048576/\Zln q.2/\q.2.total<=1048576:=by
 obtain ⟨xs,n,O,C,N,A,z⟩:=DataW.trod_struct Tryz.underlying79 h
 rw [Zve] at N
 match cs,N with
 | [u,v0,v1,v2,v3,v4,v5],_ =>
  match xs,A with
  | [y1,y2],_ =>
   simp only [Prod.mk.injEq] at C
   obtain ⟨rfl,_⟩:=C
   have f1:DataW.trod enc Tryz.prog W 0 (fun _=>true) true n 9 [u]=some y1:=by simpa [Zqu] using z 0 { name := "Key",type:=9,offset:=0,embedded:=false,tag := "",pkgPath := "",byteOffset:=0 } rfl
   have f2:DataW.trod enc Tryz.prog W 0 (fun _=>true) true n 60 [v0,v1,v2,v3,v4,v5]=some y2:=by simpa [Zpe] using z 1 { name := "Value",type:=60,offset:=1,embedded:=false,tag := "",pkgPath := "",byteOffset:=16 } rfl
   obtain ⟨s,e1,c9,P⟩:=DataW.trod_string Tryz.underlying9 f1
   simp only [List.cons.injEq,and_true] at e1
   subst e1
   have d2:Rows.uptoBulk y1.1=s.size+1:=by rw [c9];exact Zc0 s
   have a1:Rows.uptoBulk y1.1+Rows.uptoBulk y2.1+1=Rows.uptoBulk (DataW.agg ([y1,y2].map (·.1))):=by
    simp only [List.map_cons,List.map_nil,Rows.uptoBulk,Rows.uptoBulkAll];omega
   have a4:Rows.uptoBulk (DataW.agg ([y1,y2].map (·.1)))<=1048576:=hw
   obtain ⟨T,hT,hS,hB⟩:=Zpz n _ _ _ f2 (by omega)
   exact ⟨(s,T),v0,v1,v2,v3,v4,v5,rfl,P,hT,by simp only;omega,hS,by simp only;omega⟩
theorem Zjh {w:Nat} {cs:List Value} {d:DataW H} {p:List MemPlace} (h:DataW.trod enc Tryz.prog W 0 (fun _=>true) true w 45 cs=some (d,p)) (hw:Rows.uptoBulk d<=1048576) :
  ∃ (la:Option Addr) (lc:Nat) (ps:List (ByteArray × Zi)),cs=[.slice la ps.length lc]/\Jd W.heap.size W (.slice la ps.length lc) ps/\ps.length<=1048576/\∀ q ∈ ps,q.1.size<=1048576/\Zln q.2/\q.2.total<=1048576:=by
 rcases DataW.trod_slice Tryz.underlying45 h with ⟨rfl,_⟩ | ⟨a,len,cap,v,rest,n,O,rfl,C,_,N,hm,A,R,_,_⟩
 ·exact ⟨none,0,[],rfl,⟨none,0,rfl,Nat.le_refl _,by decide,.inl rfl⟩,by simp,by simp⟩
 ·simp only [Prod.mk.injEq] at C
  obtain ⟨rfl,_⟩:=C
  have a9:Rows.uptoBulkAll (v.map (·.1))+1<=Rows.uptoBulk (DataW.slice (v.map (·.1)) (rest.map (·.1))):=by simp only [Rows.uptoBulk];omega
  have V:=Zhy (v.map (·.1))
  rw [List.length_map] at V
  have hc:∀ i,i<len->∃ q:ByteArray × Zi,(W.cell? ((a.add (i*7)).add 0)=some (.string q.1)/\q.1.size<=maxLen/\∃ v0 v1 v2 v3 v4 v5,(W.cell? ((a.add (i*7)).add 1)=some v0/\W.cell? ((a.add (i*7)).add 2)=some v1/\W.cell? ((a.add (i*7)).add 3)=some v2/\W.cell? ((a.add (i*7)).add 4)=some v3/\W.cell? ((a.add (i*7)).add 5)=some v4/\W.cell? ((a.add (i*7)).add 6)=some v5)/\Zaw W.heap.size W (.agg #[v0,v1,v2,v3,v4,v5]) q.2)/\q.1.size<=1048576/\Zln q.2/\q.2.total<=1048576:=by
   intro i Y
   have key:=R i Y
   rw [Zve,List.getElem?_eq_getElem (by omega)] at key
   obtain ⟨a2,h1,h2⟩:=Option.bind_eq_some_iff.1 key
   obtain ⟨_,a3,o⟩:=World.cells?_some h1
   have K:(v[i]'(by omega)).1 ∈ v.map (·.1):=List.mem_map.2 ⟨_,List.getElem_mem (by omega),rfl⟩
   obtain ⟨q,v0,v1,v2,v3,v4,v5,rfl,P,hT,d0,b2,c8⟩:=Ztu h2 (Nat.le_trans (Zeo K) (by omega))
   exact ⟨q,⟨o 0 (by simp),P,v0,v1,v2,v3,v4,v5,⟨o 1 (by simp),o 2 (by simp),o 3 (by simp),o 4 (by simp),o 5 (by simp),o 6 (by simp)⟩,hT⟩,d0,b2,c8⟩
  have:Inhabited (ByteArray × Zi):=⟨(⟨#[]⟩,.mk 0 false 0 ⟨#[]⟩ [] [])⟩
  obtain ⟨f,z⟩:=choose_lt hc
  have S:((List.range len).map f).length=len:=by simp
  refine ⟨some a,cap,(List.range len).map f,by rw [S],⟨some a,cap,rfl,by omega,by unfold maxLen at hm;omega,?_⟩,by omega,?_⟩
  ·by_cases h0:len=0
   ·left;subst h0;rfl
   ·right
    obtain ⟨bl,off,E⟩:=a
    have B:E=none:=by
     have Q:=(z 0 (by omega)).1
     obtain ⟨c0,_⟩:=Q
     simpa [Addr.add] using World.cell?_spot c0
    subst B
    have a0:bl<W.heap.size:=by
     have Q:=(z 0 (by omega)).1
     obtain ⟨c0,_⟩:=Q
     exact Zaq c0
    refine ⟨bl,off,rfl,a0,?_⟩
    intro i t hit
    rw [List.getElem?_map] at hit
    obtain ⟨j,L,rfl⟩:=Option.map_eq_some_iff.1 hit
    rw [List.getElem?_eq_some_iff] at L
    obtain ⟨F,G⟩:=L
    simp only [List.length_range,List.getElem_range] at F G
    subst G
    have Q:=(z _ F).1
    obtain ⟨k0,P,v0,v1,v2,v3,v4,v5,⟨c0,c1,c2,c3,c4,c5⟩,hv⟩:=Q
    rw [add_plain,add_plain] at k0 c0 c1 c2 c3 c4 c5
    exact ⟨k0,P,v0,v1,v2,v3,v4,v5,⟨c0,c1,c2,c3,c4,c5⟩,hv⟩
  ·intro q D
   obtain ⟨j,L,rfl⟩:=List.mem_map.1 D
   exact (z j (List.mem_range.1 L)).2
theorem Ztv {w:Nat} {cs:List Value} {d:DataW H} {p:List MemPlace} (h:DataW.trod enc Tryz.prog W 0 (fun _=>true) true w 47 cs=some (d,p)) (hw:Rows.uptoBulk d<=1048576) :
  ∃ (q:Zo) (la:Option Addr) (lc:Nat) (M:Value),cs=[.int .i64 q.id,.slice la q.labels.length lc,M]/\(q.labels.length<=lc/\lc<=9223372036854775807)/\Zab W.heap.size W la q.labels/\Jd W.heap.size W M q.props/\Zdh 1048576 q:=by
 obtain ⟨xs,n,O,C,N,A,z⟩:=DataW.trod_struct Tryz.underlying47 h
 rw [Zxz] at N
 match cs,N with
 | [u0,u1,u2],_ =>
  match xs,A with
  | [y0,y1,y2],_ =>
   simp only [Prod.mk.injEq] at C
   obtain ⟨rfl,_⟩:=C
   have f0:DataW.trod enc Tryz.prog W 0 (fun _=>true) true n 2 [u0]=some y0:=by simpa [Zir] using z 0 { name := "ID",type:=2,offset:=0,embedded:=false,tag := "",pkgPath := "",byteOffset:=0 } rfl
   have f1:DataW.trod enc Tryz.prog W 0 (fun _=>true) true n 44 [u1]=some y1:=by simpa [Zvk] using z 1 { name := "Labels",type:=44,offset:=1,embedded:=false,tag := "",pkgPath := "",byteOffset:=8 } rfl
   have f2:DataW.trod enc Tryz.prog W 0 (fun _=>true) true n 45 [u2]=some y2:=by simpa [Zvf] using z 2 { name := "Props",type:=45,offset:=2,embedded:=false,tag := "",pkgPath := "",byteOffset:=32 } rfl
   obtain ⟨k,e0,_,hk⟩:=DataW.trod_int Tryz.underlying2 f0
   simp only [List.cons.injEq,and_true] at e0
   subst e0
   have a1:Rows.uptoBulk y0.1+Rows.uptoBulk y1.1+Rows.uptoBulk y2.1+1=Rows.uptoBulk (DataW.agg ([y0,y1,y2].map (·.1))):=by
    simp only [List.map_cons,List.map_nil,Rows.uptoBulk,Rows.uptoBulkAll];omega
   have a4:Rows.uptoBulk (DataW.agg ([y0,y1,y2].map (·.1)))<=1048576:=hw
   obtain ⟨la,lc,ks,e1,k1,k2,k3,k4,k5⟩:=Zjg f1
   subst e1
   obtain ⟨pa,pc,ps,e2,a5,a6,I⟩:=Zjh f2 (by omega)
   simp only [List.cons.injEq,and_true] at e2
   subst e2
   have kp:=Zdb ks
   exact ⟨⟨k,ks,ps⟩,la,lc,_,rfl,⟨k1,by unfold maxLen at k2;omega⟩,k3,a5,hk,by simp only;omega,fun x C=>by have:=k5 x C;omega,a6,I⟩
theorem Zp0 {w:Nat} {cs:List Value} {d:DataW H} {p:List MemPlace} (h:DataW.trod enc Tryz.prog W 0 (fun _=>true) true w 22 cs=some (d,p)) (hw:Rows.uptoBulk d<=1048576) :
  ∃ (la:Option Addr) (lc:Nat) (ps:List (Zo)),cs=[.slice la ps.length lc]/\Jj W.heap.size W (.slice la ps.length lc) ps/\ps.length<=1048576/\∀ q ∈ ps,Zdh 1048576 q:=by
 rcases DataW.trod_slice Tryz.underlying22 h with ⟨rfl,_⟩ | ⟨a,len,cap,v,rest,n,O,rfl,C,_,N,hm,A,R,_,_⟩
 ·exact ⟨none,0,[],rfl,⟨none,0,rfl,Nat.le_refl _,by decide,.inl rfl⟩,by simp,by simp⟩
 ·simp only [Prod.mk.injEq] at C
  obtain ⟨rfl,_⟩:=C
  have a9:Rows.uptoBulkAll (v.map (·.1))+1<=Rows.uptoBulk (DataW.slice (v.map (·.1)) (rest.map (·.1))):=by simp only [Rows.uptoBulk];omega
  have V:=Zhy (v.map (·.1))
  rw [List.length_map] at V
  have hc:∀ i,i<len->∃ q:Zo,(∃ la lc M,(W.cell? ((a.add (i*3)).add 0)=some (.int .i64 q.id)/\W.cell? ((a.add (i*3)).add 1)=some (.slice la q.labels.length lc)/\W.cell? ((a.add (i*3)).add 2)=some M)/\(q.labels.length<=lc/\lc<=9223372036854775807)/\Zab W.heap.size W la q.labels/\Jd W.heap.size W M q.props)/\Zdh 1048576 q:=by
   intro i Y
   have key:=R i Y
   rw [Zxz,List.getElem?_eq_getElem (by omega)] at key
   obtain ⟨a2,h1,h2⟩:=Option.bind_eq_some_iff.1 key
   obtain ⟨_,a3,o⟩:=World.cells?_some h1
   have K:(v[i]'(by omega)).1 ∈ v.map (·.1):=List.mem_map.2 ⟨_,List.getElem_mem (by omega),rfl⟩
   obtain ⟨q,la,lc,M,rfl,P,hk,hp,I⟩:=Ztv h2 (Nat.le_trans (Zeo K) (by omega))
   exact ⟨q,⟨la,lc,M,⟨o 0 (by simp),o 1 (by simp),o 2 (by simp)⟩,P,hk,hp⟩,I⟩
  have:Inhabited (Zo):=⟨⟨0,[],[]⟩⟩
  obtain ⟨f,z⟩:=choose_lt hc
  have S:((List.range len).map f).length=len:=by simp
  refine ⟨some a,cap,(List.range len).map f,by rw [S],⟨some a,cap,rfl,by omega,by unfold maxLen at hm;omega,?_⟩,by omega,?_⟩
  ·by_cases h0:len=0
   ·left;subst h0;rfl
   ·right
    obtain ⟨bl,off,E⟩:=a
    have B:E=none:=by
     have Q:=(z 0 (by omega)).1
     obtain ⟨_,_,_,⟨c0,_⟩,_⟩:=Q
     simpa [Addr.add] using World.cell?_spot c0
    subst B
    have a0:bl<W.heap.size:=by
     have Q:=(z 0 (by omega)).1
     obtain ⟨_,_,_,⟨c0,_⟩,_⟩:=Q
     exact Zaq c0
    refine ⟨bl,off,rfl,a0,?_⟩
    intro i t hit
    rw [List.getElem?_map] at hit
    obtain ⟨j,L,rfl⟩:=Option.map_eq_some_iff.1 hit
    rw [List.getElem?_eq_some_iff] at L
    obtain ⟨F,G⟩:=L
    simp only [List.length_range,List.getElem_range] at F G
    subst G
    have Q:=(z _ F).1
    obtain ⟨la,lc,M,⟨c0,c1,c2⟩,P,hk,hp⟩:=Q
    rw [add_plain,add_plain] at c0 c1 c2
    exact ⟨la,lc,M,⟨c0,c1,c2⟩,P,hk,hp⟩
  ·intro q D
   obtain ⟨j,L,rfl⟩:=List.mem_map.1 D
   exact (z j (List.mem_range.1 L)).2
theorem Zx1 {w:Nat} {cs:List Value} {d:DataW H} {p:List MemPlace} (h:DataW.trod enc Tryz.prog W 0 (fun _=>true) true w 49 cs=some (d,p)) (hw:Rows.uptoBulk d<=1048576) :
  ∃ (q:Jg) (M:Value),cs=[.int .i64 q.id,.int .i64 q.fr,.int .i64 q.tt,.string q.type,M]/\q.type.size<=maxLen/\Jd W.heap.size W M q.props/\Zfa 1048576 q:=by
 obtain ⟨xs,n,O,C,N,A,z⟩:=DataW.trod_struct Tryz.underlying49 h
 rw [Zx0] at N
 match cs,N with
 | [u0,u1,u2,u3,u4],_ =>
  match xs,A with
  | [y0,y1,y2,y3,y4],_ =>
   simp only [Prod.mk.injEq] at C
   obtain ⟨rfl,_⟩:=C
   have f0:DataW.trod enc Tryz.prog W 0 (fun _=>true) true n 2 [u0]=some y0:=by simpa [Zir] using z 0 { name := "ID",type:=2,offset:=0,embedded:=false,tag := "",pkgPath := "",byteOffset:=0 } rfl
   have f1:DataW.trod enc Tryz.prog W 0 (fun _=>true) true n 2 [u1]=some y1:=by simpa [Zir] using z 1 { name := "From",type:=2,offset:=1,embedded:=false,tag := "",pkgPath := "",byteOffset:=8 } rfl
   have f2:DataW.trod enc Tryz.prog W 0 (fun _=>true) true n 2 [u2]=some y2:=by simpa [Zir] using z 2 { name := "To",type:=2,offset:=2,embedded:=false,tag := "",pkgPath := "",byteOffset:=16 } rfl
   have f3:DataW.trod enc Tryz.prog W 0 (fun _=>true) true n 9 [u3]=some y3:=by simpa [Zqu] using z 3 { name := "Type",type:=9,offset:=3,embedded:=false,tag := "",pkgPath := "",byteOffset:=24 } rfl
   have f4:DataW.trod enc Tryz.prog W 0 (fun _=>true) true n 45 [u4]=some y4:=by simpa [Zvf] using z 4 { name := "Props",type:=45,offset:=4,embedded:=false,tag := "",pkgPath := "",byteOffset:=40 } rfl
   obtain ⟨k,e0,_,hk⟩:=DataW.trod_int Tryz.underlying2 f0
   obtain ⟨k1,e1,_,b0⟩:=DataW.trod_int Tryz.underlying2 f1
   obtain ⟨k2,e2,_,a7⟩:=DataW.trod_int Tryz.underlying2 f2
   obtain ⟨s,e3,a8,P⟩:=DataW.trod_string Tryz.underlying9 f3
   simp only [List.cons.injEq,and_true] at e0 e1 e2 e3
   subst e0 e1 e2 e3
   have b4:Rows.uptoBulk y3.1=s.size+1:=by rw [a8];exact Zc0 s
   have a1:Rows.uptoBulk y0.1+Rows.uptoBulk y1.1+Rows.uptoBulk y2.1+Rows.uptoBulk y3.1+Rows.uptoBulk y4.1+1=Rows.uptoBulk (DataW.agg ([y0,y1,y2,y3,y4].map (·.1))):=by
    simp only [List.map_cons,List.map_nil,Rows.uptoBulk,Rows.uptoBulkAll];omega
   have a4:Rows.uptoBulk (DataW.agg ([y0,y1,y2,y3,y4].map (·.1)))<=1048576:=hw
   obtain ⟨pa,pc,ps,e4,a5,a6,I⟩:=Zjh f4 (by omega)
   simp only [List.cons.injEq,and_true] at e4
   subst e4
   exact ⟨⟨k,k1,k2,s,ps⟩,_,rfl,P,a5,⟨hk,b0,a7⟩,by simp only;omega,a6,I⟩
theorem Ztw {w:Nat} {cs:List Value} {d:DataW H} {p:List MemPlace} (h:DataW.trod enc Tryz.prog W 0 (fun _=>true) true w 23 cs=some (d,p)) (hw:Rows.uptoBulk d<=1048576) :
  ∃ (la:Option Addr) (lc:Nat) (ps:List (Jg)),cs=[.slice la ps.length lc]/\Jt W.heap.size W (.slice la ps.length lc) ps/\ps.length<=1048576/\∀ q ∈ ps,Zfa 1048576 q:=by
 rcases DataW.trod_slice Tryz.underlying23 h with ⟨rfl,_⟩ | ⟨a,len,cap,v,rest,n,O,rfl,C,_,N,hm,A,R,_,_⟩
 ·exact ⟨none,0,[],rfl,⟨none,0,rfl,Nat.le_refl _,by decide,.inl rfl⟩,by simp,by simp⟩
 ·simp only [Prod.mk.injEq] at C
  obtain ⟨rfl,_⟩:=C
  have a9:Rows.uptoBulkAll (v.map (·.1))+1<=Rows.uptoBulk (DataW.slice (v.map (·.1)) (rest.map (·.1))):=by simp only [Rows.uptoBulk];omega
  have V:=Zhy (v.map (·.1))
  rw [List.length_map] at V
  have hc:∀ i,i<len->∃ q:Jg,(∃ M,(W.cell? ((a.add (i*5)).add 0)=some (.int .i64 q.id)/\W.cell? ((a.add (i*5)).add 1)=some (.int .i64 q.fr)/\W.cell? ((a.add (i*5)).add 2)=some (.int .i64 q.tt)/\W.cell? ((a.add (i*5)).add 3)=some (.string q.type)/\W.cell? ((a.add (i*5)).add 4)=some M)/\q.type.size<=maxLen/\Jd W.heap.size W M q.props)/\Zfa 1048576 q:=by
   intro i Y
   have key:=R i Y
   rw [Zx0,List.getElem?_eq_getElem (by omega)] at key
   obtain ⟨a2,h1,h2⟩:=Option.bind_eq_some_iff.1 key
   obtain ⟨_,a3,o⟩:=World.cells?_some h1
   have K:(v[i]'(by omega)).1 ∈ v.map (·.1):=List.mem_map.2 ⟨_,List.getElem_mem (by omega),rfl⟩
   obtain ⟨q,M,rfl,P,hp,I⟩:=Zx1 h2 (Nat.le_trans (Zeo K) (by omega))
   exact ⟨q,⟨M,⟨o 0 (by simp),o 1 (by simp),o 2 (by simp),o 3 (by simp),o 4 (by simp)⟩,P,hp⟩,I⟩
  have:Inhabited (Jg):=⟨⟨0,0,0,⟨#[]⟩,[]⟩⟩
  obtain ⟨f,z⟩:=choose_lt hc
  have S:((List.range len).map f).length=len:=by simp
  refine ⟨some a,cap,(List.range len).map f,by rw [S],⟨some a,cap,rfl,by omega,by unfold maxLen at hm;omega,?_⟩,by omega,?_⟩
  ·by_cases h0:len=0
   ·left;subst h0;rfl
   ·right
    obtain ⟨bl,off,E⟩:=a
    have B:E=none:=by
     have Q:=(z 0 (by omega)).1
     obtain ⟨_,⟨c0,_⟩,_⟩:=Q
     simpa [Addr.add] using World.cell?_spot c0
    subst B
    have a0:bl<W.heap.size:=by
     have Q:=(z 0 (by omega)).1
     obtain ⟨_,⟨c0,_⟩,_⟩:=Q
     exact Zaq c0
    refine ⟨bl,off,rfl,a0,?_⟩
    intro i t hit
    rw [List.getElem?_map] at hit
    obtain ⟨j,L,rfl⟩:=Option.map_eq_some_iff.1 hit
    rw [List.getElem?_eq_some_iff] at L
    obtain ⟨F,G⟩:=L
    simp only [List.length_range,List.getElem_range] at F G
    subst G
    have Q:=(z _ F).1
    obtain ⟨M,⟨c0,c1,c2,c3,c4⟩,P,hp⟩:=Q
    rw [add_plain,add_plain] at c0 c1 c2 c3 c4
    exact ⟨M,⟨c0,c1,c2,c3,c4⟩,P,hp⟩
  ·intro q D
   obtain ⟨j,L,rfl⟩:=List.mem_map.1 D
   exact (z j (List.mem_range.1 L)).2
theorem Zok {k:Int} (h:(Lit.int .i64 k).wf=true):-9223372036854775808<=k/\k<=9223372036854775807:=by
 have a:IntKind.i64.min=-9223372036854775808:=by kernel_rfl
 have b:IntKind.i64.max=9223372036854775807:=by kernel_rfl
 unfold Lit.wf at h
 simp [a,b] at h
 omega
theorem Zx2 (g:Zt) (h1:g.nodes.length<=1048576) (h2:g.rels.length<=1048576) (h3:∀ n ∈ g.nodes,Zdh 1048576 n) (h4:∀ r ∈ g.rels,Zfa 1048576 r) (h5:-9223372036854775808<=g.nn/\g.nn<=9223372036854775807) (h6:-9223372036854775808<=g.nr/\g.nr<=9223372036854775807):Fit g:=by
 have hN:∀ n ∈ g.nodes,n.labels.length<=1048576/\(∀ x ∈ n.labels,x.size<=1048576)/\n.props.length<=1048576/\∀ q ∈ n.props,q.1.size<=1048576/\Zln q.2/\q.2.total<=1048576:=fun n U=>(h3 n U).2
 have hR:∀ n ∈ g.rels,n.type.size<=1048576/\n.props.length<=1048576/\∀ q ∈ n.props,q.1.size<=1048576/\Zln q.2/\q.2.total<=1048576:=fun n U=>(h4 n U).2
 refine ⟨⟨fun n U=>?_,fun r X q D=>?_⟩,⟨by omega,by omega,fun n U=>?_,fun r X=>?_⟩,⟨by omega,by omega,fun n U=>?_,fun r X=>?_⟩,⟨fun n U q D=>?_,fun r X q D=>?_⟩,h5,h6,fun r X=>(h4 r X).1.2,fun n U=>?_,fun r X=>?_⟩
 ·obtain ⟨a,b,c,d⟩:=hN n U
  exact ⟨by omega,by omega,fun q D=>by have:=(d q D).2.2;omega⟩
 ·have:=((hR r X).2.2 q D).2.2;omega
 ·obtain ⟨a,b,c,d⟩:=hN n U
  exact ⟨fun x C=>by have:=b x C;omega,fun q D=>⟨by have:=(d q D).1;omega,(d q D).2.1,by have:=(d q D).2.2;omega⟩⟩
 ·obtain ⟨a,c,d⟩:=hR r X
  exact ⟨by omega,fun q D=>⟨by have:=(d q D).1;omega,(d q D).2.1,by have:=(d q D).2.2;omega⟩⟩
 ·obtain ⟨a,b,c,d⟩:=hN n U
  exact ⟨fun x C=>by have:=b x C;omega,fun q D=>⟨by have:=(d q D).1;omega,Zoi (by have:=(d q D).2.2;omega)⟩⟩
 ·obtain ⟨a,c,d⟩:=hR r X
  exact ⟨by omega,fun q D=>⟨by have:=(d q D).1;omega,Zoi (by have:=(d q D).2.2;omega)⟩⟩
 ·obtain ⟨a,b,c,d⟩:=hN n U
  exact ⟨(d q D).2.1,by have:=(d q D).2.2;omega⟩
 ·obtain ⟨a,c,d⟩:=hR r X
  exact ⟨(d q D).2.1,by have:=(d q D).2.2;omega⟩
 ·obtain ⟨a,b,c,d⟩:=hN n U
  exact ⟨by omega,by omega,fun q D=>by have:=(d q D).2.2;omega⟩
 ·obtain ⟨a,c,d⟩:=hR r X
  exact ⟨by omega,fun q D=>by have:=(d q D).2.2;omega⟩
theorem Zji {w:Nat} {cs:List Value} {d:DataW H} {p:List MemPlace} (h:DataW.trod enc Tryz.prog W 0 (fun _=>true) true w 25 cs=some (d,p)) (hw:Rows.uptoBulk d<=1048576) :
  ∃ g:Zt,Zr W.heap.size W (.agg cs.toArray) g/\((∀ n ∈ g.nodes,Zdh 1048576 n)/\(∀ r ∈ g.rels,Zfa 1048576 r))/\(g.nodes.length<=1048576/\g.rels.length<=1048576)/\(-9223372036854775808<=g.nn/\g.nn<=9223372036854775807)/\-9223372036854775808<=g.nr/\g.nr<=9223372036854775807:=by
 obtain ⟨xs,n,O,C,N,A,z⟩:=DataW.trod_struct Tryz.underlying25 h
 rw [Jdl] at N
 match cs,N with
 | [u0,u1,u2,u3],_ =>
  match xs,A with
  | [y0,y1,y2,y3],_ =>
   simp only [Prod.mk.injEq] at C
   obtain ⟨rfl,_⟩:=C
   have f0:DataW.trod enc Tryz.prog W 0 (fun _=>true) true n 22 [u0]=some y0:=by simpa [Jdm] using z 0 { name := "Nodes",type:=22,offset:=0,embedded:=false,tag := "",pkgPath := "",byteOffset:=0 } rfl
   have f1:DataW.trod enc Tryz.prog W 0 (fun _=>true) true n 23 [u1]=some y1:=by simpa [Jdn] using z 1 { name := "Rels",type:=23,offset:=1,embedded:=false,tag := "",pkgPath := "",byteOffset:=24 } rfl
   have f2:DataW.trod enc Tryz.prog W 0 (fun _=>true) true n 2 [u2]=some y2:=by simpa [Zir] using z 2 { name := "NextNode",type:=2,offset:=2,embedded:=false,tag := "",pkgPath := "",byteOffset:=48 } rfl
   have f3:DataW.trod enc Tryz.prog W 0 (fun _=>true) true n 2 [u3]=some y3:=by simpa [Zir] using z 3 { name := "NextRel",type:=2,offset:=3,embedded:=false,tag := "",pkgPath := "",byteOffset:=56 } rfl
   obtain ⟨nn,e2,_,a7⟩:=DataW.trod_int Tryz.underlying2 f2
   obtain ⟨nr,e3,_,c6⟩:=DataW.trod_int Tryz.underlying2 f3
   simp only [List.cons.injEq,and_true] at e2 e3
   subst e2 e3
   have a1:Rows.uptoBulk y0.1+Rows.uptoBulk y1.1+Rows.uptoBulk y2.1+Rows.uptoBulk y3.1+1=Rows.uptoBulk (DataW.agg ([y0,y1,y2,y3].map (·.1))):=by
    simp only [List.map_cons,List.map_nil,Rows.uptoBulk,Rows.uptoBulkAll];omega
   have a4:Rows.uptoBulk (DataW.agg ([y0,y1,y2,y3].map (·.1)))<=1048576:=hw
   obtain ⟨na,nc,ns,e0,U,b6,c7⟩:=Zp0 f0 (by omega)
   obtain ⟨ra,rc,rs,e1,X,b1,b8⟩:=Ztw f1 (by omega)
   simp only [List.cons.injEq,and_true] at e0 e1
   subst e0 e1
   exact ⟨⟨ns,rs,nn,nr⟩,⟨na,nc,ra,rc,rfl,U,X⟩,⟨c7,b8⟩,⟨b6,b1⟩,Zok a7,Zok c6⟩
end
