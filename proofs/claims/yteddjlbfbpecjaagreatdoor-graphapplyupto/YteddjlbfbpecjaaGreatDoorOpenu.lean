/- Graphs that are handed in, of a bulk that a machine holds: where they lie, and how great they are. -/
import Derived.Test.YteddjlbfbpecjaaGreatDoorJoin32
import Derived.Test.YteddjlbfbpecjaaGreatDoorJoin35
import Derived.Test.YteddjlbfbpecjaaGreatDoorRows
namespace Go.Proofs.YteddjlbfbpecjaaGreatDoor
open Go.ChangeShapes Go.WideShapes Go.ChangeAt Go.RowKit Go.Shelf Go.Deep
set_option maxRecDepth 100000
set_option linter.all false
theorem Znx  : Tryz.prog.cellsOf 47=3:=by kernel_rfl
theorem Zny  : Tryz.prog.cellsOf 49=5:=by kernel_rfl
theorem Jas  : Tryz.prog.cellsOf 25=4:=by kernel_rfl
theorem Jat  : Tryz.prog.cellsOf 22=1:=by kernel_rfl
theorem Jau  : Tryz.prog.cellsOf 23=1:=by kernel_rfl
theorem Zc3  : ∀ ks:List ByteArray,0≤Zx ks
 | []=>by simp [Zx]
 | k::ks=>by
  have:=Zc3 ks
  simp only [Zx,List.map_cons,List.sum_cons] at this ⊢
  omega
theorem Znz (a b:List (Int × Zk)):Ja (a++b)=Ja a+Ja b:=by
 unfold Ja;rw [List.map_append,List.sum_append]
mutual
theorem Zgu  : ∀ (T:Zk) (d:Int),(T.height:Int)≤T.total∧Ja (T.pre d)≤T.total∧1≤T.total
 | .mk k b n s ks ts,d=>by
  obtain ⟨h1,h2,h3⟩:=totalL_bounds ts (d+1)
  have h4:=Zc3 ks
  have e:Ja ((d,Zk.mk k b n s ks ts)::Zk.preL (d+1) ts)=((s.size:Int)+Zx ks)+Ja (Zk.preL (d+1) ts):=by
   simp [Ja,Zk.bytes,Zk.text,Zk.keys]
  rw [Zk.height,Zk.total,Zk.pre,e]
  refine ⟨?_,?_,?_⟩<;>omega
theorem totalL_bounds  : ∀ (ts:List Zk) (d:Int),(Zk.heightL ts:Int)≤Zk.totalL ts∧Ja (Zk.preL d ts)≤Zk.totalL ts∧0≤Zk.totalL ts
 | [],d=>by simp [Zk.heightL,Zk.totalL,Zk.preL,Ja]
 | t::ts,d=>by
  obtain ⟨h1,h2,h3⟩:=Zgu t d
  obtain ⟨g1,g2,g3⟩:=totalL_bounds ts d
  rw [Zk.heightL,Zk.totalL,Zk.preL,Znz]
  refine ⟨?_,?_,?_⟩<;>omega
end
theorem Zmn {T:Zk} (h:T.total≤2000000):Zct T:=by
 have:=Zgu T 1
 exact ⟨by omega,by omega⟩
theorem Zx4 {H:Type} (d:DataW H):1≤Rows.uptoBulk d:=by
 cases d with
 | lit l=>cases l<;>simp [Rows.uptoBulk]
 | nil=>simp [Rows.uptoBulk]
 | ptr d=>simp [Rows.uptoBulk]
 | slice elems spare=>simp [Rows.uptoBulk]
 | agg parts=>simp [Rows.uptoBulk]
 | iface t d=>simp [Rows.uptoBulk]
 | map entries=>simp [Rows.uptoBulk]
 | held h=>simp [Rows.uptoBulk]
theorem Zdg {H:Type} {d:DataW H} {l:List (DataW H)} (h:d ∈ l):Rows.uptoBulk d≤Rows.uptoBulkAll l:=by
 induction l with
 | nil=>cases h
 | cons x r ih =>
  simp only [Rows.uptoBulkAll]
  cases List.mem_cons.1 h with
  | inl e=>subst e;omega
  | inr e=>have:=ih e;omega
theorem Zhb {H:Type} (l:List (DataW H)):l.length≤Rows.uptoBulkAll l:=by
 induction l with
 | nil=>simp [Rows.uptoBulkAll]
 | cons x r ih=>have:=Zx4 x;simp only [Rows.uptoBulkAll,List.length_cons];omega
theorem Zcw {H:Type} (s:ByteArray):Rows.uptoBulk (DataW.lit (H:=H) (.string s.data.toList))=s.size+1:=by
 simp [Rows.uptoBulk]
theorem Zmo {H:Type}:∀ (ss:List ByteArray),(ss.length:Int)+Zx ss=Rows.uptoBulkAll (strs (H:=H) ss)
 | []=>by simp [Zx,strs,Rows.uptoBulkAll]
 | s::ss=>by
  have:=Zmo (H:=H) ss
  unfold strs at this ⊢
  rw [List.map_cons,Rows.uptoBulkAll,Zcw]
  simp only [Zx,List.map_cons,List.sum_cons,List.length_cons] at this ⊢
  omega
theorem Zig {H:Type}:∀ (l:List Zk) (es:List (DataW H)),l.length=es.length→(∀ (i:Nat) (t:Zk) (e:DataW H),l[i]?=some t→es[i]?=some e→t.total≤Rows.uptoBulk e)→Zk.totalL l≤Rows.uptoBulkAll es
 | [],[],_,_=>by simp [Zk.totalL,Rows.uptoBulkAll]
 | [],_::_,h,_=>by simp at h
 | _::_,[],h,_=>by simp at h
 | t::l,e::es,h,ht=>by
  have h1:=ht 0 t e rfl rfl
  have h2:=Zig l es (by simpa using h) fun i u f hu hf=>ht (i+1) u f (by simpa using hu) (by simpa using hf)
  rw [Zk.totalL,Rows.uptoBulkAll]
  omega
section
variable {H:Type} {enc:TypeId × Value→H} {W:World}
theorem Zih {fuel:Nat} {u:Value} {y:DataW H × List MemPlace} (h:DataW.trod enc Tryz.prog W 0 (fun _=>true) true fuel 44 [u]=some y) :
  ∃ (la:Option Addr) (lc:Nat) (ks:List ByteArray),u=.slice la ks.length lc∧ks.length≤lc∧lc≤maxLen∧Jv W.heap.size W la ks∧(ks.length:Int)+Zx ks+1≤Rows.uptoBulk y.1∧∀ x ∈ ks,x.size+1≤Rows.uptoBulk y.1:=by
 rcases open_strings Tryz.underlying44 Tryz.underlying9 Zow h with ⟨e4,e5⟩ | ⟨a,len,cap,ss,e4,_,hlc,hcm,hss,hx4,hcell,hsz⟩
 ·simp only [List.cons.injEq,and_true] at e4
  subst e4 e5
  exact ⟨none,0,[],rfl,Nat.le_refl _,by unfold maxLen;omega,.inl rfl,by simp [Zx,Rows.uptoBulk],by simp⟩
 ·simp only [List.cons.injEq,and_true] at e4
  subst e4
  simp only [if_true] at hss
  have e:(ss.take len).length=len:=by simp;omega
  have hbk:=Zmo (H:=H) (ss.take len)
  have hbd:Rows.uptoBulkAll (strs (H:=H) (ss.take len))+1≤Rows.uptoBulk y.1:=by
   rw [hx4];simp only [Rows.uptoBulk];omega
  refine ⟨some a,cap,ss.take len,by rw [e],by omega,hcm,?_,by omega,?_⟩
  ·by_cases h0:len=0
   ·left;subst h0;simp
   ·right
    obtain ⟨bk,off,spot⟩:=a
    have c0:=hcell 0 (by omega)
    have hspot:spot=none:=by simpa [Addr.add] using World.cell?_spot c0
    subst hspot
    refine ⟨bk,off,rfl,Zab c0,fun i hi=>?_⟩
    rw [e] at hi
    have hg:(ss.take len).getD i ⟨#[]⟩=ss.getD i ByteArray.empty:=by
     rw [List.getD_eq_getElem?_getD,List.getElem?_take_of_lt hi,List.getD_eq_getElem?_getD];rfl
    rw [hg,← add_plain]
    refine ⟨hcell i (by omega),?_⟩
    rw [List.getD_eq_getElem?_getD,List.getElem?_eq_getElem (by omega)]
    exact hsz _ (List.getElem_mem _)
  ·intro x hx
   have h1:Rows.uptoBulk (DataW.lit (H:=H) (.string x.data.toList))≤Rows.uptoBulkAll (strs (H:=H) (ss.take len)):=Zdg (by unfold strs;exact List.mem_map.2 ⟨x,hx,rfl⟩)
   rw [Zcw] at h1
   omega
def Zy5 (enc:TypeId × Value→H) (W:World) (fuel:Nat):Prop:=∀ (cs:List Value) (d:DataW H) (p:List MemPlace),DataW.trod enc Tryz.prog W 0 (fun _=>true) true fuel 60 cs=some (d,p) →
 Rows.uptoBulk d≤1048576→∃ T,Zaw W.heap.size W (.agg cs.toArray) T∧Zj6 T∧T.total≤Rows.uptoBulk d
theorem Zra {fuel:Nat} (ih:∀ m,m<fuel→Zy5 enc W m) {cs:List Value} {d:DataW H} {p:List MemPlace} (h:DataW.trod enc Tryz.prog W 0 (fun _=>true) true fuel 58 cs=some (d,p))
  (hw:Rows.uptoBulk d≤1048576) :
  ∃ (la:Option Addr) (lc:Nat) (ts:List Zk),cs=[.slice la ts.length lc]∧ts.length≤lc∧lc≤maxLen∧ts.length≤140737488355328∧Za9 W.heap.size W la ts∧SaneL ts∧Zk.totalL ts+1≤Rows.uptoBulk d:=by
 rcases DataW.trod_slice Tryz.underlying58 h with ⟨rfl,h0⟩ | ⟨a,len,cap,elems,rest,n,hfu,rfl,hx,_,hl,hm,hlen,hel,_,_⟩
 ·simp only [Prod.mk.injEq] at h0
  obtain ⟨rfl,_⟩:=h0
  exact ⟨none,0,[],rfl,Nat.le_refl _,by unfold maxLen;omega,by simp,.inl rfl,by simp only [SaneL],by simp [Zk.totalL,Rows.uptoBulk]⟩
 ·simp only [Prod.mk.injEq] at hx
  obtain ⟨rfl,_⟩:=hx
  have hbe:Rows.uptoBulkAll (elems.map (·.1))+1≤Rows.uptoBulk (DataW.slice (elems.map (·.1)) (rest.map (·.1))):=by simp only [Rows.uptoBulk];omega
  have hbl:=Zhb (elems.map (·.1))
  rw [List.length_map] at hbl
  have hc:∀ i,i<len→∃ t:Zk,(∃ v0 v1 v2 v3 v4 v5,(W.cell? ((a.add (i*6)).add 0)=some v0∧W.cell? ((a.add (i*6)).add 1)=some v1∧W.cell? ((a.add (i*6)).add 2)=some v2∧W.cell? ((a.add (i*6)).add 3)=some v3∧W.cell? ((a.add (i*6)).add 4)=some v4∧W.cell? ((a.add (i*6)).add 5)=some v5) ∧
    Zaw W.heap.size W (.agg #[v0,v1,v2,v3,v4,v5]) t)∧Zj6 t∧∀ e,(elems.map (·.1))[i]?=some e→t.total≤Rows.uptoBulk e:=by
   intro i hi
   have key:=hel i hi
   rw [Znf,List.getElem?_eq_getElem (by omega)] at key
   obtain ⟨cs',h1,h2⟩:=Option.bind_eq_some_iff.1 key
   obtain ⟨_,hl6,hcell⟩:=World.cells?_some h1
   have hmem:(elems[i]'(by omega)).1 ∈ elems.map (·.1):=List.mem_map.2 ⟨_,List.getElem_mem (by omega),rfl⟩
   obtain ⟨v0,v1,v2,v3,v4,v5,rfl⟩:∃ v0 v1 v2 v3 v4 v5,cs'=[v0,v1,v2,v3,v4,v5]:=by
    match cs',hl6 with
    | [v0,v1,v2,v3,v4,v5],_=>exact ⟨_,_,_,_,_,_,rfl⟩
   obtain ⟨T,hT,hS,hB⟩:=ih n (by omega) _ _ _ h2 (Nat.le_trans (Zdg hmem) (by omega))
   refine ⟨T,⟨v0,v1,v2,v3,v4,v5,⟨hcell 0 (by omega),hcell 1 (by omega),hcell 2 (by omega),hcell 3 (by omega),hcell 4 (by omega),hcell 5 (by omega)⟩,hT⟩,hS,fun e he=>?_⟩
   rw [List.getElem?_map,List.getElem?_eq_getElem (by omega)] at he
   simp only [Option.map_some,Option.some.injEq] at he
   rw [← he];exact hB
  have:Inhabited Zk:=⟨.mk 0 false 0 ⟨#[]⟩ [] []⟩
  obtain ⟨f,hf⟩:=choose_lt hc
  have hlt:((List.range len).map f).length=len:=by simp
  have htot:Zk.totalL ((List.range len).map f)≤Rows.uptoBulkAll (elems.map (·.1)):=by
   refine Zig _ _ (by simp [hlen]) fun i t e hi he=>?_
   rw [List.getElem?_map] at hi
   obtain ⟨j,hj,rfl⟩:=Option.map_eq_some_iff.1 hi
   rw [List.getElem?_eq_some_iff] at hj
   obtain ⟨hji,hjj⟩:=hj
   simp only [List.length_range,List.getElem_range] at hji hjj
   subst hjj
   exact (hf _ hji).2.2 e he
  refine ⟨some a,cap,(List.range len).map f,by rw [hlt],by omega,hm,by omega,?_,?_,by omega⟩
  ·by_cases h0:len=0
   ·left;subst h0;rfl
   ·right
    obtain ⟨bl,off,spot⟩:=a
    obtain ⟨v0,_,_,_,_,_,⟨c0,_⟩,_⟩:=(hf 0 (by omega)).1
    have hspot:spot=none:=by simpa [Addr.add] using World.cell?_spot c0
    subst hspot
    refine ⟨bl,off,rfl,Zab c0,Zs2 _ _ ?_⟩
    intro i t hit
    rw [List.getElem?_map] at hit
    obtain ⟨j,hj,rfl⟩:=Option.map_eq_some_iff.1 hit
    rw [List.getElem?_eq_some_iff] at hj
    obtain ⟨hji,hjj⟩:=hj
    simp only [List.length_range,List.getElem_range] at hji hjj
    subst hjj
    obtain ⟨v0,v1,v2,v3,v4,v5,⟨c0,c1,c2,c3,c4,c5⟩,hv⟩:=(hf _ hji).1
    rw [add_plain,add_plain] at c0 c1 c2 c3 c4 c5
    exact ⟨v0,v1,v2,v3,v4,v5,⟨c0,c1,c2,c3,c4,c5⟩,hv⟩
  ·refine Zs3 _ fun t ht=>?_
   obtain ⟨j,hj,rfl⟩:=List.mem_map.1 ht
   exact (hf j (List.mem_range.1 hj)).2.1
theorem Zn0  : ∀ fuel,Zy5 enc W fuel:=by
 intro fuel
 induction fuel using Nat.strongRecOn with
 | _ fuel ih =>
  intro cs d p h hw
  obtain ⟨xs,n,hfu,hx,hl,hlen,hf⟩:=DataW.trod_struct Tryz.underlying60 h
  rw [Znf] at hl
  match cs,hl with
  | [v0,v1,v2,v3,v4,v5],_ =>
   match xs,hlen with
   | [y0,y1,y2,y3,y4,y5],_ =>
    simp only [Prod.mk.injEq] at hx
    obtain ⟨rfl,_⟩:=hx
    have f0:DataW.trod enc Tryz.prog W 0 (fun _=>true) true n 57 [v0]=some y0:=by simpa [Zzz] using hf 0 { name := "Kind",type:=57,offset:=0,embedded:=false,tag := "",pkgPath := "",byteOffset:=0 } rfl
    have f1:DataW.trod enc Tryz.prog W 0 (fun _=>true) true n 4 [v1]=some y1:=by simpa [Jbx] using hf 1 { name := "Bool",type:=4,offset:=1,embedded:=false,tag := "",pkgPath := "",byteOffset:=8 } rfl
    have f2:DataW.trod enc Tryz.prog W 0 (fun _=>true) true n 2 [v2]=some y2:=by simpa [Zft] using hf 2 { name := "Int",type:=2,offset:=2,embedded:=false,tag := "",pkgPath := "",byteOffset:=16 } rfl
    have f3:DataW.trod enc Tryz.prog W 0 (fun _=>true) true n 9 [v3]=some y3:=by simpa [Zow] using hf 3 { name := "Text",type:=9,offset:=3,embedded:=false,tag := "",pkgPath := "",byteOffset:=24 } rfl
    have f4:DataW.trod enc Tryz.prog W 0 (fun _=>true) true n 44 [v4]=some y4:=by simpa [Zs1] using hf 4 { name := "Keys",type:=44,offset:=4,embedded:=false,tag := "",pkgPath := "",byteOffset:=40 } rfl
    have f5:DataW.trod enc Tryz.prog W 0 (fun _=>true) true n 58 [v5]=some y5:=by simpa [Zzy] using hf 5 { name := "List",type:=58,offset:=5,embedded:=false,tag := "",pkgPath := "",byteOffset:=64 } rfl
    obtain ⟨k,e0,_,_⟩:=DataW.trod_int Tryz.underlying57 f0
    obtain ⟨b,e1,_⟩:=DataW.trod_bool Tryz.underlying4 f1
    obtain ⟨m,e2,_,_⟩:=DataW.trod_int Tryz.underlying2 f2
    obtain ⟨s,e3,e3',hs⟩:=DataW.trod_string Tryz.underlying9 f3
    simp only [List.cons.injEq,and_true] at e0 e1 e2 e3
    subst e0 e1 e2 e3
    have hb3:Rows.uptoBulk y3.1=s.size+1:=by rw [e3'];exact Zcw s
    have hbd:Rows.uptoBulk y0.1+Rows.uptoBulk y1.1+Rows.uptoBulk y2.1+Rows.uptoBulk y3.1+Rows.uptoBulk y4.1+Rows.uptoBulk y5.1+1=Rows.uptoBulk (DataW.agg ([y0,y1,y2,y3,y4,y5].map (·.1))):=by
     simp only [List.map_cons,List.map_nil,Rows.uptoBulk,Rows.uptoBulkAll];omega
    have hw2:Rows.uptoBulk (DataW.agg ([y0,y1,y2,y3,y4,y5].map (·.1)))≤1048576:=hw
    obtain ⟨la,lc,ts,e5,g1,g2,g3,g4,g5,g6⟩:=Zra (fun m hm=>ih m (by omega)) f5 (by omega)
    simp only [List.cons.injEq,and_true] at e5
    subst e5
    obtain ⟨ka,kc,ks,e4,k1,k2,k3,k4,k5⟩:=Zih f4
    subst e4
    have kp:=Zc3 ks
    refine ⟨.mk k b m s ks ts,?_,?_,?_⟩
    ·rw [Zaw]
     exact ⟨ka,kc,la,lc,rfl,⟨hs,k1,k2,g1,g2⟩,k3,g4⟩
    ·rw [Zj6]
     exact ⟨by omega,by omega,g3,fun x hx=>by have:=k5 x hx;omega,g5⟩
    ·rw [Zk.total]
     show _≤((Rows.uptoBulk (DataW.agg ([y0,y1,y2,y3,y4,y5].map (·.1))):Nat):Int)
     omega
def Zpw (b:Nat) (ps:List (ByteArray × Zk)):Prop:=ps.length≤b∧∀ q ∈ ps,q.1.size≤b∧Zj6 q.2∧q.2.total≤b
def Zed (b:Nat) (n:Zp):Prop:=I64 n.id∧n.labels.length≤b∧(∀ x ∈ n.labels,x.size≤b)∧Zpw b n.props
def Zgv (b:Nat) (r:Jj):Prop:=(I64 r.id∧I64 r.fr∧I64 r.tt)∧r.type.size≤b∧Zpw b r.props
theorem Zrb {fuel:Nat} {cs:List Value} {d:DataW H} {p:List MemPlace} (h:DataW.trod enc Tryz.prog W 0 (fun _=>true) true fuel 79 cs=some (d,p)) (hw:Rows.uptoBulk d≤1048576) :
  ∃ (q:ByteArray × Zk) (v0 v1 v2 v3 v4 v5:Value),cs=[.string q.1,v0,v1,v2,v3,v4,v5]∧q.1.size≤maxLen∧Zaw W.heap.size W (.agg #[v0,v1,v2,v3,v4,v5]) q.2∧q.1.size≤1048576∧Zj6 q.2∧q.2.total≤1048576:=by
 obtain ⟨xs,n,hfu,hx,hl,hlen,hf⟩:=DataW.trod_struct Tryz.underlying79 h
 rw [Zso] at hl
 match cs,hl with
 | [u,v0,v1,v2,v3,v4,v5],_ =>
  match xs,hlen with
  | [y1,y2],_ =>
   simp only [Prod.mk.injEq] at hx
   obtain ⟨rfl,_⟩:=hx
   have f1:DataW.trod enc Tryz.prog W 0 (fun _=>true) true n 9 [u]=some y1:=by simpa [Zow] using hf 0 { name := "Key",type:=9,offset:=0,embedded:=false,tag := "",pkgPath := "",byteOffset:=0 } rfl
   have f2:DataW.trod enc Tryz.prog W 0 (fun _=>true) true n 60 [v0,v1,v2,v3,v4,v5]=some y2:=by simpa [Znf] using hf 1 { name := "Value",type:=60,offset:=1,embedded:=false,tag := "",pkgPath := "",byteOffset:=16 } rfl
   obtain ⟨s,e1,e1',hs⟩:=DataW.trod_string Tryz.underlying9 f1
   simp only [List.cons.injEq,and_true] at e1
   subst e1
   have hb1:Rows.uptoBulk y1.1=s.size+1:=by rw [e1'];exact Zcw s
   have hbd:Rows.uptoBulk y1.1+Rows.uptoBulk y2.1+1=Rows.uptoBulk (DataW.agg ([y1,y2].map (·.1))):=by
    simp only [List.map_cons,List.map_nil,Rows.uptoBulk,Rows.uptoBulkAll];omega
   have hw2:Rows.uptoBulk (DataW.agg ([y1,y2].map (·.1)))≤1048576:=hw
   obtain ⟨T,hT,hS,hB⟩:=Zn0 n _ _ _ f2 (by omega)
   exact ⟨(s,T),v0,v1,v2,v3,v4,v5,rfl,hs,hT,by simp only;omega,hS,by simp only;omega⟩
theorem Zii {fuel:Nat} {cs:List Value} {d:DataW H} {p:List MemPlace} (h:DataW.trod enc Tryz.prog W 0 (fun _=>true) true fuel 45 cs=some (d,p)) (hw:Rows.uptoBulk d≤1048576) :
  ∃ (la:Option Addr) (lc:Nat) (ps:List (ByteArray × Zk)),cs=[.slice la ps.length lc]∧Jh W.heap.size W (.slice la ps.length lc) ps∧ps.length≤1048576∧∀ q ∈ ps,q.1.size≤1048576∧Zj6 q.2∧q.2.total≤1048576:=by
 rcases DataW.trod_slice Tryz.underlying45 h with ⟨rfl,_⟩ | ⟨a,len,cap,elems,rest,n,hfu,rfl,hx,_,hl,hm,hlen,hel,_,_⟩
 ·exact ⟨none,0,[],rfl,⟨none,0,rfl,Nat.le_refl _,by decide,.inl rfl⟩,by simp,by simp⟩
 ·simp only [Prod.mk.injEq] at hx
  obtain ⟨rfl,_⟩:=hx
  have hbe:Rows.uptoBulkAll (elems.map (·.1))+1≤Rows.uptoBulk (DataW.slice (elems.map (·.1)) (rest.map (·.1))):=by simp only [Rows.uptoBulk];omega
  have hbl:=Zhb (elems.map (·.1))
  rw [List.length_map] at hbl
  have hc:∀ i,i<len→∃ q:ByteArray × Zk,(W.cell? ((a.add (i*7)).add 0)=some (.string q.1)∧q.1.size≤maxLen∧∃ v0 v1 v2 v3 v4 v5,(W.cell? ((a.add (i*7)).add 1)=some v0∧W.cell? ((a.add (i*7)).add 2)=some v1∧W.cell? ((a.add (i*7)).add 3)=some v2∧W.cell? ((a.add (i*7)).add 4)=some v3∧W.cell? ((a.add (i*7)).add 5)=some v4∧W.cell? ((a.add (i*7)).add 6)=some v5)∧Zaw W.heap.size W (.agg #[v0,v1,v2,v3,v4,v5]) q.2)∧q.1.size≤1048576∧Zj6 q.2∧q.2.total≤1048576:=by
   intro i hi
   have key:=hel i hi
   rw [Zso,List.getElem?_eq_getElem (by omega)] at key
   obtain ⟨cs',h1,h2⟩:=Option.bind_eq_some_iff.1 key
   obtain ⟨_,hl6,hcell⟩:=World.cells?_some h1
   have hmem:(elems[i]'(by omega)).1 ∈ elems.map (·.1):=List.mem_map.2 ⟨_,List.getElem_mem (by omega),rfl⟩
   obtain ⟨q,v0,v1,v2,v3,v4,v5,rfl,hs,hT,hf1,hf2,hf3⟩:=Zrb h2 (Nat.le_trans (Zdg hmem) (by omega))
   exact ⟨q,⟨hcell 0 (by simp),hs,v0,v1,v2,v3,v4,v5,⟨hcell 1 (by simp),hcell 2 (by simp),hcell 3 (by simp),hcell 4 (by simp),hcell 5 (by simp),hcell 6 (by simp)⟩,hT⟩,hf1,hf2,hf3⟩
  have:Inhabited (ByteArray × Zk):=⟨(⟨#[]⟩,.mk 0 false 0 ⟨#[]⟩ [] [])⟩
  obtain ⟨f,hf⟩:=choose_lt hc
  have hlt:((List.range len).map f).length=len:=by simp
  refine ⟨some a,cap,(List.range len).map f,by rw [hlt],⟨some a,cap,rfl,by omega,by unfold maxLen at hm;omega,?_⟩,by omega,?_⟩
  ·by_cases h0:len=0
   ·left;subst h0;rfl
   ·right
    obtain ⟨bl,off,spot⟩:=a
    have hspot:spot=none:=by
     have hz:=(hf 0 (by omega)).1
     obtain ⟨c0,_⟩:=hz
     simpa [Addr.add] using World.cell?_spot c0
    subst hspot
    have hbw:bl<W.heap.size:=by
     have hz:=(hf 0 (by omega)).1
     obtain ⟨c0,_⟩:=hz
     exact Zab c0
    refine ⟨bl,off,rfl,hbw,?_⟩
    intro i t hit
    rw [List.getElem?_map] at hit
    obtain ⟨j,hj,rfl⟩:=Option.map_eq_some_iff.1 hit
    rw [List.getElem?_eq_some_iff] at hj
    obtain ⟨hji,hjj⟩:=hj
    simp only [List.length_range,List.getElem_range] at hji hjj
    subst hjj
    have hz:=(hf _ hji).1
    obtain ⟨k0,hs,v0,v1,v2,v3,v4,v5,⟨c0,c1,c2,c3,c4,c5⟩,hv⟩:=hz
    rw [add_plain,add_plain] at k0 c0 c1 c2 c3 c4 c5
    exact ⟨k0,hs,v0,v1,v2,v3,v4,v5,⟨c0,c1,c2,c3,c4,c5⟩,hv⟩
  ·intro q hq
   obtain ⟨j,hj,rfl⟩:=List.mem_map.1 hq
   exact (hf j (List.mem_range.1 hj)).2
theorem Zjo {fuel:Nat} {cs:List Value} {d:DataW H} {p:List MemPlace} (h:DataW.trod enc Tryz.prog W 0 (fun _=>true) true fuel 47 cs=some (d,p)) (hw:Rows.uptoBulk d≤1048576) :
  ∃ (q:Zp) (la:Option Addr) (lc:Nat) (pv:Value),cs=[.int .i64 q.id,.slice la q.labels.length lc,pv]∧(q.labels.length≤lc∧lc≤9223372036854775807)∧Jv W.heap.size W la q.labels∧Jh W.heap.size W pv q.props∧Zed 1048576 q:=by
 obtain ⟨xs,n,hfu,hx,hl,hlen,hf⟩:=DataW.trod_struct Tryz.underlying47 h
 rw [Znx] at hl
 match cs,hl with
 | [u0,u1,u2],_ =>
  match xs,hlen with
  | [y0,y1,y2],_ =>
   simp only [Prod.mk.injEq] at hx
   obtain ⟨rfl,_⟩:=hx
   have f0:DataW.trod enc Tryz.prog W 0 (fun _=>true) true n 2 [u0]=some y0:=by simpa [Zft] using hf 0 { name := "ID",type:=2,offset:=0,embedded:=false,tag := "",pkgPath := "",byteOffset:=0 } rfl
   have f1:DataW.trod enc Tryz.prog W 0 (fun _=>true) true n 44 [u1]=some y1:=by simpa [Zs1] using hf 1 { name := "Labels",type:=44,offset:=1,embedded:=false,tag := "",pkgPath := "",byteOffset:=8 } rfl
   have f2:DataW.trod enc Tryz.prog W 0 (fun _=>true) true n 45 [u2]=some y2:=by simpa [Zsp] using hf 2 { name := "Props",type:=45,offset:=2,embedded:=false,tag := "",pkgPath := "",byteOffset:=32 } rfl
   obtain ⟨k,e0,_,hk⟩:=DataW.trod_int Tryz.underlying2 f0
   simp only [List.cons.injEq,and_true] at e0
   subst e0
   have hbd:Rows.uptoBulk y0.1+Rows.uptoBulk y1.1+Rows.uptoBulk y2.1+1=Rows.uptoBulk (DataW.agg ([y0,y1,y2].map (·.1))):=by
    simp only [List.map_cons,List.map_nil,Rows.uptoBulk,Rows.uptoBulkAll];omega
   have hw2:Rows.uptoBulk (DataW.agg ([y0,y1,y2].map (·.1)))≤1048576:=hw
   obtain ⟨la,lc,ks,e1,k1,k2,k3,k4,k5⟩:=Zih f1
   subst e1
   obtain ⟨pa,pc,ps,e2,hps,hl2,hfit⟩:=Zii f2 (by omega)
   simp only [List.cons.injEq,and_true] at e2
   subst e2
   have kp:=Zc3 ks
   exact ⟨⟨k,ks,ps⟩,la,lc,_,rfl,⟨k1,by unfold maxLen at k2;omega⟩,k3,hps,hk,by simp only;omega,fun x hx=>by have:=k5 x hx;omega,hl2,hfit⟩
theorem Zn1 {fuel:Nat} {cs:List Value} {d:DataW H} {p:List MemPlace} (h:DataW.trod enc Tryz.prog W 0 (fun _=>true) true fuel 22 cs=some (d,p)) (hw:Rows.uptoBulk d≤1048576) :
  ∃ (la:Option Addr) (lc:Nat) (ps:List (Zp)),cs=[.slice la ps.length lc]∧Zax W.heap.size W (.slice la ps.length lc) ps∧ps.length≤1048576∧∀ q ∈ ps,Zed 1048576 q:=by
 rcases DataW.trod_slice Tryz.underlying22 h with ⟨rfl,_⟩ | ⟨a,len,cap,elems,rest,n,hfu,rfl,hx,_,hl,hm,hlen,hel,_,_⟩
 ·exact ⟨none,0,[],rfl,⟨none,0,rfl,Nat.le_refl _,by decide,.inl rfl⟩,by simp,by simp⟩
 ·simp only [Prod.mk.injEq] at hx
  obtain ⟨rfl,_⟩:=hx
  have hbe:Rows.uptoBulkAll (elems.map (·.1))+1≤Rows.uptoBulk (DataW.slice (elems.map (·.1)) (rest.map (·.1))):=by simp only [Rows.uptoBulk];omega
  have hbl:=Zhb (elems.map (·.1))
  rw [List.length_map] at hbl
  have hc:∀ i,i<len→∃ q:Zp,(∃ la lc pv,(W.cell? ((a.add (i*3)).add 0)=some (.int .i64 q.id)∧W.cell? ((a.add (i*3)).add 1)=some (.slice la q.labels.length lc)∧W.cell? ((a.add (i*3)).add 2)=some pv)∧(q.labels.length≤lc∧lc≤9223372036854775807)∧Jv W.heap.size W la q.labels∧Jh W.heap.size W pv q.props)∧Zed 1048576 q:=by
   intro i hi
   have key:=hel i hi
   rw [Znx,List.getElem?_eq_getElem (by omega)] at key
   obtain ⟨cs',h1,h2⟩:=Option.bind_eq_some_iff.1 key
   obtain ⟨_,hl6,hcell⟩:=World.cells?_some h1
   have hmem:(elems[i]'(by omega)).1 ∈ elems.map (·.1):=List.mem_map.2 ⟨_,List.getElem_mem (by omega),rfl⟩
   obtain ⟨q,la,lc,pv,rfl,hs,hk,hp,hfit⟩:=Zjo h2 (Nat.le_trans (Zdg hmem) (by omega))
   exact ⟨q,⟨la,lc,pv,⟨hcell 0 (by simp),hcell 1 (by simp),hcell 2 (by simp)⟩,hs,hk,hp⟩,hfit⟩
  have:Inhabited (Zp):=⟨⟨0,[],[]⟩⟩
  obtain ⟨f,hf⟩:=choose_lt hc
  have hlt:((List.range len).map f).length=len:=by simp
  refine ⟨some a,cap,(List.range len).map f,by rw [hlt],⟨some a,cap,rfl,by omega,by unfold maxLen at hm;omega,?_⟩,by omega,?_⟩
  ·by_cases h0:len=0
   ·left;subst h0;rfl
   ·right
    obtain ⟨bl,off,spot⟩:=a
    have hspot:spot=none:=by
     have hz:=(hf 0 (by omega)).1
     obtain ⟨_,_,_,⟨c0,_⟩,_⟩:=hz
     simpa [Addr.add] using World.cell?_spot c0
    subst hspot
    have hbw:bl<W.heap.size:=by
     have hz:=(hf 0 (by omega)).1
     obtain ⟨_,_,_,⟨c0,_⟩,_⟩:=hz
     exact Zab c0
    refine ⟨bl,off,rfl,hbw,?_⟩
    intro i t hit
    rw [List.getElem?_map] at hit
    obtain ⟨j,hj,rfl⟩:=Option.map_eq_some_iff.1 hit
    rw [List.getElem?_eq_some_iff] at hj
    obtain ⟨hji,hjj⟩:=hj
    simp only [List.length_range,List.getElem_range] at hji hjj
    subst hjj
    have hz:=(hf _ hji).1
    obtain ⟨la,lc,pv,⟨c0,c1,c2⟩,hs,hk,hp⟩:=hz
    rw [add_plain,add_plain] at c0 c1 c2
    exact ⟨la,lc,pv,⟨c0,c1,c2⟩,hs,hk,hp⟩
  ·intro q hq
   obtain ⟨j,hj,rfl⟩:=List.mem_map.1 hq
   exact (hf j (List.mem_range.1 hj)).2
theorem Zmp {fuel:Nat} {cs:List Value} {d:DataW H} {p:List MemPlace} (h:DataW.trod enc Tryz.prog W 0 (fun _=>true) true fuel 49 cs=some (d,p)) (hw:Rows.uptoBulk d≤1048576) :
  ∃ (q:Jj) (pv:Value),cs=[.int .i64 q.id,.int .i64 q.fr,.int .i64 q.tt,.string q.type,pv]∧q.type.size≤maxLen∧Jh W.heap.size W pv q.props∧Zgv 1048576 q:=by
 obtain ⟨xs,n,hfu,hx,hl,hlen,hf⟩:=DataW.trod_struct Tryz.underlying49 h
 rw [Zny] at hl
 match cs,hl with
 | [u0,u1,u2,u3,u4],_ =>
  match xs,hlen with
  | [y0,y1,y2,y3,y4],_ =>
   simp only [Prod.mk.injEq] at hx
   obtain ⟨rfl,_⟩:=hx
   have f0:DataW.trod enc Tryz.prog W 0 (fun _=>true) true n 2 [u0]=some y0:=by simpa [Zft] using hf 0 { name := "ID",type:=2,offset:=0,embedded:=false,tag := "",pkgPath := "",byteOffset:=0 } rfl
   have f1:DataW.trod enc Tryz.prog W 0 (fun _=>true) true n 2 [u1]=some y1:=by simpa [Zft] using hf 1 { name := "From",type:=2,offset:=1,embedded:=false,tag := "",pkgPath := "",byteOffset:=8 } rfl
   have f2:DataW.trod enc Tryz.prog W 0 (fun _=>true) true n 2 [u2]=some y2:=by simpa [Zft] using hf 2 { name := "To",type:=2,offset:=2,embedded:=false,tag := "",pkgPath := "",byteOffset:=16 } rfl
   have f3:DataW.trod enc Tryz.prog W 0 (fun _=>true) true n 9 [u3]=some y3:=by simpa [Zow] using hf 3 { name := "Type",type:=9,offset:=3,embedded:=false,tag := "",pkgPath := "",byteOffset:=24 } rfl
   have f4:DataW.trod enc Tryz.prog W 0 (fun _=>true) true n 45 [u4]=some y4:=by simpa [Zsp] using hf 4 { name := "Props",type:=45,offset:=4,embedded:=false,tag := "",pkgPath := "",byteOffset:=40 } rfl
   obtain ⟨k,e0,_,hk⟩:=DataW.trod_int Tryz.underlying2 f0
   obtain ⟨k1,e1,_,hk1⟩:=DataW.trod_int Tryz.underlying2 f1
   obtain ⟨k2,e2,_,hk2⟩:=DataW.trod_int Tryz.underlying2 f2
   obtain ⟨s,e3,e3',hs⟩:=DataW.trod_string Tryz.underlying9 f3
   simp only [List.cons.injEq,and_true] at e0 e1 e2 e3
   subst e0 e1 e2 e3
   have hb3:Rows.uptoBulk y3.1=s.size+1:=by rw [e3'];exact Zcw s
   have hbd:Rows.uptoBulk y0.1+Rows.uptoBulk y1.1+Rows.uptoBulk y2.1+Rows.uptoBulk y3.1+Rows.uptoBulk y4.1+1=Rows.uptoBulk (DataW.agg ([y0,y1,y2,y3,y4].map (·.1))):=by
    simp only [List.map_cons,List.map_nil,Rows.uptoBulk,Rows.uptoBulkAll];omega
   have hw2:Rows.uptoBulk (DataW.agg ([y0,y1,y2,y3,y4].map (·.1)))≤1048576:=hw
   obtain ⟨pa,pc,ps,e4,hps,hl2,hfit⟩:=Zii f4 (by omega)
   simp only [List.cons.injEq,and_true] at e4
   subst e4
   exact ⟨⟨k,k1,k2,s,ps⟩,_,rfl,hs,hps,⟨hk,hk1,hk2⟩,by simp only;omega,hl2,hfit⟩
theorem Zrc {fuel:Nat} {cs:List Value} {d:DataW H} {p:List MemPlace} (h:DataW.trod enc Tryz.prog W 0 (fun _=>true) true fuel 23 cs=some (d,p)) (hw:Rows.uptoBulk d≤1048576) :
  ∃ (la:Option Addr) (lc:Nat) (ps:List (Jj)),cs=[.slice la ps.length lc]∧Zbe W.heap.size W (.slice la ps.length lc) ps∧ps.length≤1048576∧∀ q ∈ ps,Zgv 1048576 q:=by
 rcases DataW.trod_slice Tryz.underlying23 h with ⟨rfl,_⟩ | ⟨a,len,cap,elems,rest,n,hfu,rfl,hx,_,hl,hm,hlen,hel,_,_⟩
 ·exact ⟨none,0,[],rfl,⟨none,0,rfl,Nat.le_refl _,by decide,.inl rfl⟩,by simp,by simp⟩
 ·simp only [Prod.mk.injEq] at hx
  obtain ⟨rfl,_⟩:=hx
  have hbe:Rows.uptoBulkAll (elems.map (·.1))+1≤Rows.uptoBulk (DataW.slice (elems.map (·.1)) (rest.map (·.1))):=by simp only [Rows.uptoBulk];omega
  have hbl:=Zhb (elems.map (·.1))
  rw [List.length_map] at hbl
  have hc:∀ i,i<len→∃ q:Jj,(∃ pv,(W.cell? ((a.add (i*5)).add 0)=some (.int .i64 q.id)∧W.cell? ((a.add (i*5)).add 1)=some (.int .i64 q.fr)∧W.cell? ((a.add (i*5)).add 2)=some (.int .i64 q.tt)∧W.cell? ((a.add (i*5)).add 3)=some (.string q.type)∧W.cell? ((a.add (i*5)).add 4)=some pv)∧q.type.size≤maxLen∧Jh W.heap.size W pv q.props)∧Zgv 1048576 q:=by
   intro i hi
   have key:=hel i hi
   rw [Zny,List.getElem?_eq_getElem (by omega)] at key
   obtain ⟨cs',h1,h2⟩:=Option.bind_eq_some_iff.1 key
   obtain ⟨_,hl6,hcell⟩:=World.cells?_some h1
   have hmem:(elems[i]'(by omega)).1 ∈ elems.map (·.1):=List.mem_map.2 ⟨_,List.getElem_mem (by omega),rfl⟩
   obtain ⟨q,pv,rfl,hs,hp,hfit⟩:=Zmp h2 (Nat.le_trans (Zdg hmem) (by omega))
   exact ⟨q,⟨pv,⟨hcell 0 (by simp),hcell 1 (by simp),hcell 2 (by simp),hcell 3 (by simp),hcell 4 (by simp)⟩,hs,hp⟩,hfit⟩
  have:Inhabited (Jj):=⟨⟨0,0,0,⟨#[]⟩,[]⟩⟩
  obtain ⟨f,hf⟩:=choose_lt hc
  have hlt:((List.range len).map f).length=len:=by simp
  refine ⟨some a,cap,(List.range len).map f,by rw [hlt],⟨some a,cap,rfl,by omega,by unfold maxLen at hm;omega,?_⟩,by omega,?_⟩
  ·by_cases h0:len=0
   ·left;subst h0;rfl
   ·right
    obtain ⟨bl,off,spot⟩:=a
    have hspot:spot=none:=by
     have hz:=(hf 0 (by omega)).1
     obtain ⟨_,⟨c0,_⟩,_⟩:=hz
     simpa [Addr.add] using World.cell?_spot c0
    subst hspot
    have hbw:bl<W.heap.size:=by
     have hz:=(hf 0 (by omega)).1
     obtain ⟨_,⟨c0,_⟩,_⟩:=hz
     exact Zab c0
    refine ⟨bl,off,rfl,hbw,?_⟩
    intro i t hit
    rw [List.getElem?_map] at hit
    obtain ⟨j,hj,rfl⟩:=Option.map_eq_some_iff.1 hit
    rw [List.getElem?_eq_some_iff] at hj
    obtain ⟨hji,hjj⟩:=hj
    simp only [List.length_range,List.getElem_range] at hji hjj
    subst hjj
    have hz:=(hf _ hji).1
    obtain ⟨pv,⟨c0,c1,c2,c3,c4⟩,hs,hp⟩:=hz
    rw [add_plain,add_plain] at c0 c1 c2 c3 c4
    exact ⟨pv,⟨c0,c1,c2,c3,c4⟩,hs,hp⟩
  ·intro q hq
   obtain ⟨j,hj,rfl⟩:=List.mem_map.1 hq
   exact (hf j (List.mem_range.1 hj)).2
theorem Zf3 {k:Int} (h:(Lit.int .i64 k).wf=true):-9223372036854775808≤k∧k≤9223372036854775807:=by
 have a:IntKind.i64.min=-9223372036854775808:=by kernel_rfl
 have b:IntKind.i64.max=9223372036854775807:=by kernel_rfl
 unfold Lit.wf at h
 simp [a,b] at h
 omega
theorem Zu3 (g:Zy) (h1:g.nodes.length≤1048576) (h2:g.rels.length≤1048576) (h3:∀ n ∈ g.nodes,Zed 1048576 n) (h4:∀ r ∈ g.rels,Zgv 1048576 r) (h5:-9223372036854775808≤g.nn∧g.nn≤9223372036854775807) (h6:-9223372036854775808≤g.nr∧g.nr≤9223372036854775807):Fit g:=by
 have hN:∀ n ∈ g.nodes,n.labels.length≤1048576∧(∀ x ∈ n.labels,x.size≤1048576)∧n.props.length≤1048576∧∀ q ∈ n.props,q.1.size≤1048576∧Zj6 q.2∧q.2.total≤1048576:=fun n hn=>(h3 n hn).2
 have hR:∀ n ∈ g.rels,n.type.size≤1048576∧n.props.length≤1048576∧∀ q ∈ n.props,q.1.size≤1048576∧Zj6 q.2∧q.2.total≤1048576:=fun n hn=>(h4 n hn).2
 refine ⟨⟨fun n hn=>?_,fun r hr q hq=>?_⟩,⟨by omega,by omega,fun n hn=>?_,fun r hr=>?_⟩,⟨by omega,by omega,fun n hn=>?_,fun r hr=>?_⟩,⟨fun n hn q hq=>?_,fun r hr q hq=>?_⟩,h5,h6,fun r hr=>(h4 r hr).1.2,fun n hn=>?_,fun r hr=>?_⟩
 ·obtain ⟨a,b,c,d⟩:=hN n hn
  exact ⟨by omega,by omega,fun q hq=>by have:=(d q hq).2.2;omega⟩
 ·have:=((hR r hr).2.2 q hq).2.2;omega
 ·obtain ⟨a,b,c,d⟩:=hN n hn
  exact ⟨fun x hx=>by have:=b x hx;omega,fun q hq=>⟨by have:=(d q hq).1;omega,(d q hq).2.1,by have:=(d q hq).2.2;omega⟩⟩
 ·obtain ⟨a,c,d⟩:=hR r hr
  exact ⟨by omega,fun q hq=>⟨by have:=(d q hq).1;omega,(d q hq).2.1,by have:=(d q hq).2.2;omega⟩⟩
 ·obtain ⟨a,b,c,d⟩:=hN n hn
  exact ⟨fun x hx=>by have:=b x hx;omega,fun q hq=>⟨by have:=(d q hq).1;omega,Zmn (by have:=(d q hq).2.2;omega)⟩⟩
 ·obtain ⟨a,c,d⟩:=hR r hr
  exact ⟨by omega,fun q hq=>⟨by have:=(d q hq).1;omega,Zmn (by have:=(d q hq).2.2;omega)⟩⟩
 ·obtain ⟨a,b,c,d⟩:=hN n hn
  exact ⟨(d q hq).2.1,by have:=(d q hq).2.2;omega⟩
 ·obtain ⟨a,c,d⟩:=hR r hr
  exact ⟨(d q hq).2.1,by have:=(d q hq).2.2;omega⟩
 ·obtain ⟨a,b,c,d⟩:=hN n hn
  exact ⟨by omega,by omega,fun q hq=>by have:=(d q hq).2.2;omega⟩
 ·obtain ⟨a,c,d⟩:=hR r hr
  exact ⟨by omega,fun q hq=>by have:=(d q hq).2.2;omega⟩
theorem Zn2 {fuel:Nat} {cs:List Value} {d:DataW H} {p:List MemPlace} (h:DataW.trod enc Tryz.prog W 0 (fun _=>true) true fuel 25 cs=some (d,p)) (hw:Rows.uptoBulk d≤1048576) :
  ∃ g:Zy,Zq W.heap.size W (.agg cs.toArray) g∧((∀ n ∈ g.nodes,Zed 1048576 n)∧(∀ r ∈ g.rels,Zgv 1048576 r))∧(g.nodes.length≤1048576∧g.rels.length≤1048576)∧(-9223372036854775808≤g.nn∧g.nn≤9223372036854775807)∧-9223372036854775808≤g.nr∧g.nr≤9223372036854775807:=by
 obtain ⟨xs,n,hfu,hx,hl,hlen,hf⟩:=DataW.trod_struct Tryz.underlying25 h
 rw [Jas] at hl
 match cs,hl with
 | [u0,u1,u2,u3],_ =>
  match xs,hlen with
  | [y0,y1,y2,y3],_ =>
   simp only [Prod.mk.injEq] at hx
   obtain ⟨rfl,_⟩:=hx
   have f0:DataW.trod enc Tryz.prog W 0 (fun _=>true) true n 22 [u0]=some y0:=by simpa [Jat] using hf 0 { name := "Nodes",type:=22,offset:=0,embedded:=false,tag := "",pkgPath := "",byteOffset:=0 } rfl
   have f1:DataW.trod enc Tryz.prog W 0 (fun _=>true) true n 23 [u1]=some y1:=by simpa [Jau] using hf 1 { name := "Rels",type:=23,offset:=1,embedded:=false,tag := "",pkgPath := "",byteOffset:=24 } rfl
   have f2:DataW.trod enc Tryz.prog W 0 (fun _=>true) true n 2 [u2]=some y2:=by simpa [Zft] using hf 2 { name := "NextNode",type:=2,offset:=2,embedded:=false,tag := "",pkgPath := "",byteOffset:=48 } rfl
   have f3:DataW.trod enc Tryz.prog W 0 (fun _=>true) true n 2 [u3]=some y3:=by simpa [Zft] using hf 3 { name := "NextRel",type:=2,offset:=3,embedded:=false,tag := "",pkgPath := "",byteOffset:=56 } rfl
   obtain ⟨nn,e2,_,hk2⟩:=DataW.trod_int Tryz.underlying2 f2
   obtain ⟨nr,e3,_,hk3⟩:=DataW.trod_int Tryz.underlying2 f3
   simp only [List.cons.injEq,and_true] at e2 e3
   subst e2 e3
   have hbd:Rows.uptoBulk y0.1+Rows.uptoBulk y1.1+Rows.uptoBulk y2.1+Rows.uptoBulk y3.1+1=Rows.uptoBulk (DataW.agg ([y0,y1,y2,y3].map (·.1))):=by
    simp only [List.map_cons,List.map_nil,Rows.uptoBulk,Rows.uptoBulkAll];omega
   have hw2:Rows.uptoBulk (DataW.agg ([y0,y1,y2,y3].map (·.1)))≤1048576:=hw
   obtain ⟨na,nc,ns,e0,hn,hnl,hnf⟩:=Zn1 f0 (by omega)
   obtain ⟨ra,rc,rs,e1,hr,hrl,hrf⟩:=Zrc f1 (by omega)
   simp only [List.cons.injEq,and_true] at e0 e1
   subst e0 e1
   exact ⟨⟨ns,rs,nn,nr⟩,⟨na,nc,ra,rc,rfl,hn,hr⟩,⟨hnf,hrf⟩,⟨hnl,hrl⟩,Zf3 hk2,Zf3 hk3⟩
end
