/- The document's rows without those of a number. -/
import Derived.Test.YteddjlbfbpecjaaGreatDoorApl2
import Derived.Test.YteddjlbfbpecjaaGreatDoorJoin8
import Derived.Test.YteddjlbfbpecjaaGreatDoorJoin19
import Derived.Test.YteddjlbfbpecjaaGreatDoorJoin2
namespace Go.Proofs.YteddjlbfbpecjaaGreatDoor
section
open Go.RowKit Go.Shelf
set_option maxHeartbeats 8000000
set_option maxRecDepth 100000
set_option linter.all false
attribute [local go_sem] Oper.semAt_some
theorem Zx5 (ns:List Zp) (id:Int) (B:Nat) (w0:World) (Q:Nat→Prop) (v:Value) (w:World) (hl:Zeg 3 (Zv B w0) Q w v ns) (hln:ns.length≤999990) :
  Calls Tryz.prog 64 #[v,.int .i64 id] w fun e w'=>∃ v',e=.returned v'∧Zeg 3 (Zv B w0) (fun bl=>w.heap.size≤bl) w' v' (Zbc Zp.id id ns)∧Below w.heap.size w w':=by
 obtain ⟨a,c,css,rfl,h1,h2,hcss,hone,h3⟩:=hl
 have H3:=Zb h3
 clear hcss hone h3
 go_enter Tryz.func64,Tryz.ntmps64
 go_wp2_with fail
 go_loopw [5,6] (fun o i wr=>∃ (j:Nat) (des:List (List Value)),j≤ns.length∧i=.int .i64 j∧Below w.heap.size w wr∧Css 3 (Zv B w0) des (Zbc Zp.id id (ns.take j))∧wr.ownsRow w.heap.size 47 3 o (Zbc Zp.id id (ns.take j)).length des.flatten∧∀ c ∈ des,∀ v ∈ c,v.oneCell'=true) (fun _ i _=>ns.length - (intOf i).toNat)
 case atStart=>exact ⟨0,[],Nat.zero_le _,rfl,Below.refl _ _,Zb5,World.ownsRow_nil _ _ _ _,fun c hc=>by simp at hc⟩
 case round =>
  obtain ⟨j,des,hj,rfl,hbr,hde,hro,hon⟩:=hrel
  have HON:=Zb hon
  obtain ⟨oa,oc,rfl⟩:=Zw hro
  have HBR:=Zb hbr
  have HDE:=Zb hde
  have HRO:=Zb hro
  clear hbr hde hro hon
  by_cases hlt:j<ns.length
  ·obtain ⟨bl,off,rfl,hbl,_,hca⟩:=H3.out.resolve_left (fun e=>by rw [e] at hlt;simp at hlt)
   obtain ⟨x,hx⟩:∃ x,ns[j]?=some x:=⟨_,List.getElem?_eq_getElem hlt⟩
   obtain ⟨cs,hcx⟩:∃ cs,css[j]?=some cs:=⟨_,List.getElem?_eq_getElem (by rw [hca.1];exact hlt)⟩
   obtain ⟨hl1,hl2,hcc,hlx⟩:=hca.2 j x cs hx hcx
   have HLX:=Zb hlx
   obtain ⟨la,lc,pa,pc,hag,hs1,hs2,hs3⟩:=hlx
   have ecs:cs=[.int .i64 x.id,.slice la x.labels.length lc,.slice pa x.props.length pc]:=by
    have:=congrArg Array.toList (Value.agg.inj hag)
    simpa using this
   subst ecs
   have hc:∀ q v,([.int .i64 x.id,.slice la x.labels.length lc,.slice pa x.props.length pc]:List Value)[q]?=some v→wr.cell? ⟨bl,off+j*3+q,none⟩=some v:=fun q v hq=>(HBR.out.cell (p:=⟨bl,off+j*3+q,none⟩) (by show bl<_;omega)).trans (hcc q v hq)
   have c0:=hc 0 _ rfl
   have c1:=hc 1 _ rfl
   have c2:=hc 2 _ rfl
   rw [Nat.add_zero] at c0
   have HX:=Zb hx
   clear hc hcc hx hcx hag hl1 hl2 hca
   have htk:Zbc Zp.id id (ns.take (j+1))=Zbc Zp.id id (ns.take j)++if x.id != id then [x] else []:=by
    unfold Zbc
    rw [List.take_add_one,HX.out,List.filter_append]
    congr 1
    cases h:(x.id != id)<;>simp [h]
   by_cases hid:x.id=id
   ·have hne:(x.id != id)=false:=by simp [hid]
    rw [hne,if_neg (by simp),List.append_nil] at htk
    have HTK:=Zb htk
    clear htk hid c1 c2
    go_wp2_with fail
    go_roundw
    case rel=>exact ⟨j+1,des,by omega,by go_num,HBR.out,by rw [HTK.out];exact HDE.out,by rw [HTK.out];exact HRO.out,HON.out⟩
    case measure=>simp [intOf];omega
   ·have hne:(x.id != id)=true:=by simp [hid]
    rw [hne,if_pos rfl] at htk
    have HTK:=Zb htk
    clear htk hid
    have hbA:Below wr.heap.size wr (wr.alloc (.cells #[.int .i64 x.id,.slice la x.labels.length lc,.slice pa x.props.length pc] 47)):=(Below.refl _ _).alloc (Nat.le_refl _) _
    have hrA:=Zl wr #[.int .i64 x.id,.slice la x.labels.length lc,.slice pa x.props.length pc] 47
    have hdl:(Zbc Zp.id id (ns.take j)).length≤j:=by
     have:=List.length_filter_le (fun x:Zp=>x.id != id) (ns.take j)
     rw [List.length_take] at this
     unfold Zbc;omega
    obtain ⟨v2,w2,r2,o2,hb2⟩:=Zcg (ty:=22) (c:=1) (a:=some ⟨wr.heap.size,0,none⟩) (Zt HRO.out fun g _ hg=>hbA.block g hg) (m:=1) (news:=[.int .i64 x.id,.slice la x.labels.length lc,.slice pa x.props.length pc]) rfl (fun u hu=>by simp only [List.mem_cons,List.not_mem_nil,or_false] at hu;rcases hu with rfl | rfl | rfl<;>rfl) (.inr ⟨wr.heap.size,0,rfl,fun q u hu=>by rw [Nat.zero_add];exact hrA.cell q (by simpa using hu)⟩) (by omega) (by have:=HBR.out.size;have:=hbA.size;omega)
    have HO2:=Zb o2
    have HB2:Hid (Below w.heap.size w w2):=(HBR.out.trans (hbA.mono HBR.out.size)).trans hb2
    have HD2:Hid (Css 3 (Zv B w0) (des++[[.int .i64 x.id,.slice la x.labels.length lc,.slice pa x.props.length pc]]) (Zbc Zp.id id (ns.take j)++[x])):=HDE.out.app ⟨rfl,fun i y hy=>by
     cases i with
     | zero=>obtain rfl:=Option.some.inj hy;exact ⟨_,rfl,rfl,HLX.out⟩
     | succ i=>simp at hy⟩
    clear o2 hb2 hbA hrA
    go_wp2_with (at_builtin;refine Zg rfl _ _ 22 rfl rfl rfl r2 ?_)
    go_roundw
    case rel=>exact ⟨j+1,_,by omega,by go_num,HB2.out,by rw [HTK.out];exact HD2.out,by rw [HTK.out,List.length_append,List.flatten_append];simpa using HO2.out,fun d hd=>by
     rcases List.mem_append.1 hd with q | q
     ·exact HON.out d q
     ·obtain rfl:d=_:=by simpa using q
      intro v hv
      simp only [List.mem_cons,List.not_mem_nil,or_false] at hv
      rcases hv with rfl | rfl | rfl<;>rfl⟩
    case measure=>simp [intOf];omega
  ·obtain rfl:j=ns.length:=by omega
   obtain ⟨ln,hln⟩:∃ m,(Zbc Zp.id id (ns.take ns.length)).length=m:=⟨_,rfl⟩
   rw [hln] at HRO ⊢
   rw [List.take_length] at hln HDE
   have HLN:=Zb hln
   clear hln
   go_wp2_with fail
   go_ret
   refine ⟨_,rfl,?_,HBR.out⟩
   exact Zzf HRO.out HDE.out HON.out HLN.out.symm
theorem Zx6 (ns:List Jj) (id:Int) (B:Nat) (w0:World) (Q:Nat→Prop) (v:Value) (w:World) (hl:Zeg 5 (Jc B w0) Q w v ns) (hln:ns.length≤999990) :
  Calls Tryz.prog 65 #[v,.int .i64 id] w fun e w'=>∃ v',e=.returned v'∧Zeg 5 (Jc B w0) (fun bl=>w.heap.size≤bl) w' v' (Zbc Jj.id id ns)∧Below w.heap.size w w':=by
 obtain ⟨a,c,css,rfl,h1,h2,hcss,hone,h3⟩:=hl
 have H3:=Zb h3
 clear hcss hone h3
 go_enter Tryz.func65,Tryz.ntmps65
 go_wp2_with fail
 go_loopw [5,6] (fun o i wr=>∃ (j:Nat) (des:List (List Value)),j≤ns.length∧i=.int .i64 j∧Below w.heap.size w wr∧Css 5 (Jc B w0) des (Zbc Jj.id id (ns.take j))∧wr.ownsRow w.heap.size 49 5 o (Zbc Jj.id id (ns.take j)).length des.flatten∧∀ c ∈ des,∀ v ∈ c,v.oneCell'=true) (fun _ i _=>ns.length - (intOf i).toNat)
 case atStart=>exact ⟨0,[],Nat.zero_le _,rfl,Below.refl _ _,Zb5,World.ownsRow_nil _ _ _ _,fun c hc=>by simp at hc⟩
 case round =>
  obtain ⟨j,des,hj,rfl,hbr,hde,hro,hon⟩:=hrel
  have HON:=Zb hon
  obtain ⟨oa,oc,rfl⟩:=Zw hro
  have HBR:=Zb hbr
  have HDE:=Zb hde
  have HRO:=Zb hro
  clear hbr hde hro hon
  by_cases hlt:j<ns.length
  ·obtain ⟨bl,off,rfl,hbl,_,hca⟩:=H3.out.resolve_left (fun e=>by rw [e] at hlt;simp at hlt)
   obtain ⟨x,hx⟩:∃ x,ns[j]?=some x:=⟨_,List.getElem?_eq_getElem hlt⟩
   obtain ⟨cs,hcx⟩:∃ cs,css[j]?=some cs:=⟨_,List.getElem?_eq_getElem (by rw [hca.1];exact hlt)⟩
   obtain ⟨hl1,hl2,hcc,hlx⟩:=hca.2 j x cs hx hcx
   have HLX:=Zb hlx
   obtain ⟨pa,pc,hag,hs3⟩:=hlx
   have ecs:cs=[.int .i64 x.id,.int .i64 x.fr,.int .i64 x.tt,.string x.type,.slice pa x.props.length pc]:=by
    have:=congrArg Array.toList (Value.agg.inj hag)
    simpa using this
   subst ecs
   have hc:∀ q v,([.int .i64 x.id,.int .i64 x.fr,.int .i64 x.tt,.string x.type,.slice pa x.props.length pc]:List Value)[q]?=some v→wr.cell? ⟨bl,off+j*5+q,none⟩=some v:=fun q v hq=>(HBR.out.cell (p:=⟨bl,off+j*5+q,none⟩) (by show bl<_;omega)).trans (hcc q v hq)
   have c0:=hc 0 _ rfl
   have c1:=hc 1 _ rfl
   have c2:=hc 2 _ rfl
   have c3:=hc 3 _ rfl
   have c4:=hc 4 _ rfl
   rw [Nat.add_zero] at c0
   have HX:=Zb hx
   clear hc hcc hx hcx hag hl1 hl2 hca
   have htk:Zbc Jj.id id (ns.take (j+1))=Zbc Jj.id id (ns.take j)++if x.id != id then [x] else []:=by
    unfold Zbc
    rw [List.take_add_one,HX.out,List.filter_append]
    congr 1
    cases h:(x.id != id)<;>simp [h]
   by_cases hid:x.id=id
   ·have hne:(x.id != id)=false:=by simp [hid]
    rw [hne,if_neg (by simp),List.append_nil] at htk
    have HTK:=Zb htk
    clear htk hid c1 c2 c3 c4
    go_wp2_with fail
    go_roundw
    case rel=>exact ⟨j+1,des,by omega,by go_num,HBR.out,by rw [HTK.out];exact HDE.out,by rw [HTK.out];exact HRO.out,HON.out⟩
    case measure=>simp [intOf];omega
   ·have hne:(x.id != id)=true:=by simp [hid]
    rw [hne,if_pos rfl] at htk
    have HTK:=Zb htk
    clear htk hid
    have hbA:Below wr.heap.size wr (wr.alloc (.cells #[.int .i64 x.id,.int .i64 x.fr,.int .i64 x.tt,.string x.type,.slice pa x.props.length pc] 49)):=(Below.refl _ _).alloc (Nat.le_refl _) _
    have hrA:=Zl wr #[.int .i64 x.id,.int .i64 x.fr,.int .i64 x.tt,.string x.type,.slice pa x.props.length pc] 49
    have hdl:(Zbc Jj.id id (ns.take j)).length≤j:=by
     have:=List.length_filter_le (fun x:Jj=>x.id != id) (ns.take j)
     rw [List.length_take] at this
     unfold Zbc;omega
    obtain ⟨v2,w2,r2,o2,hb2⟩:=Zch (ty:=23) (c:=1) (a:=some ⟨wr.heap.size,0,none⟩) (Zt HRO.out fun g _ hg=>hbA.block g hg) (m:=1) (news:=[.int .i64 x.id,.int .i64 x.fr,.int .i64 x.tt,.string x.type,.slice pa x.props.length pc]) rfl (fun u hu=>by simp only [List.mem_cons,List.not_mem_nil,or_false] at hu;rcases hu with rfl | rfl | rfl | rfl | rfl<;>rfl) (.inr ⟨wr.heap.size,0,rfl,fun q u hu=>by rw [Nat.zero_add];exact hrA.cell q (by simpa using hu)⟩) (by omega) (by have:=HBR.out.size;have:=hbA.size;omega)
    have HO2:=Zb o2
    have HB2:Hid (Below w.heap.size w w2):=(HBR.out.trans (hbA.mono HBR.out.size)).trans hb2
    have HD2:Hid (Css 5 (Jc B w0) (des++[[.int .i64 x.id,.int .i64 x.fr,.int .i64 x.tt,.string x.type,.slice pa x.props.length pc]]) (Zbc Jj.id id (ns.take j)++[x])):=HDE.out.app ⟨rfl,fun i y hy=>by
     cases i with
     | zero=>obtain rfl:=Option.some.inj hy;exact ⟨_,rfl,rfl,HLX.out⟩
     | succ i=>simp at hy⟩
    clear o2 hb2 hbA hrA
    go_wp2_with (at_builtin;refine Zg rfl _ _ 23 rfl rfl rfl r2 ?_)
    go_roundw
    case rel=>exact ⟨j+1,_,by omega,by go_num,HB2.out,by rw [HTK.out];exact HD2.out,by rw [HTK.out,List.length_append,List.flatten_append];simpa using HO2.out,fun d hd=>by
     rcases List.mem_append.1 hd with q | q
     ·exact HON.out d q
     ·obtain rfl:d=_:=by simpa using q
      intro v hv
      simp only [List.mem_cons,List.not_mem_nil,or_false] at hv
      rcases hv with rfl | rfl | rfl | rfl | rfl<;>rfl⟩
    case measure=>simp [intOf];omega
  ·obtain rfl:j=ns.length:=by omega
   obtain ⟨ln,hln⟩:∃ m,(Zbc Jj.id id (ns.take ns.length)).length=m:=⟨_,rfl⟩
   rw [hln] at HRO ⊢
   rw [List.take_length] at hln HDE
   have HLN:=Zb hln
   clear hln
   go_wp2_with fail
   go_ret
   refine ⟨_,rfl,?_,HBR.out⟩
   exact Zzf HRO.out HDE.out HON.out HLN.out.symm
end
section
open Go.RowKit Go.Shelf Go.WideShapes
set_option maxHeartbeats 4000000
set_option maxRecDepth 100000
set_option linter.all false
noncomputable def Zix  : Array Oper:=Jg Tryz.f40 1
def Je2  : List Sig:=[⟨4,.move (.tmp 0),31,none⟩,⟨5,.nilCheck (.tmp 4),0,none⟩,⟨6,.fieldAddr 74 (.tmp 5) 1,0,none⟩,⟨7,.load 72 (.tmp 6),72,none⟩,⟨8,.fieldAddr 49 (.tmp 3) 1,0,none⟩,⟨9,.load 2 (.tmp 8),2,none⟩,⟨10,.move (.tmp 0),31,none⟩,⟨11,.nilCheck (.tmp 10),0,none⟩,⟨12,.fieldAddr 74 (.tmp 11) 1,0,none⟩,⟨13,.load 72 (.tmp 12),72,none⟩,⟨14,.fieldAddr 49 (.tmp 3) 1,0,none⟩,⟨15,.load 2 (.tmp 14),2,none⟩,⟨16,.lookup 72 (.tmp 13) (.tmp 15) false,100,none⟩,⟨17,.fieldAddr 49 (.tmp 3) 0,0,none⟩,⟨18,.load 2 (.tmp 17),2,none⟩,⟨19,.buildSlice 100 1 #[(0,.tmp 18)],100,none⟩,⟨20,.call { callee:=.builtin .append,args:=#[.tmp 16,.tmp 19],argTypes:=#[100,100] },100,none⟩]
theorem Jbo  : (Jq Zix).take Je2.length=Je2.map some:=by kernel_rfl
def Zhq (i:Nat):List Nat:=nth [] [[],[0],[1],[2],[],[4],[],[6],[7],[8],[],[10],[9,11],[],[13],[14],[12,15],[0,1,2,3,4,5,6,7,8,9,10,11,12,13,14,15,16]] i
def Zam (row:Option Nat) (w0:World) (p:GP) (id k:Int) (X B0:Nat) (SV:Value) (n:Nat) (xs:List Value):List (Value→World→Prop) :=
 [eqv (.pointer (some ⟨p.g,0,none⟩)),eqv (.pointer (some ⟨p.g,0,none⟩)),eqv (.pointer (some ⟨p.g,4,none⟩)),eqv (.map (some p.f)),eqv (.pointer (some ⟨X,1,none⟩)),eqv (.int .i64 k),eqv (.pointer (some ⟨p.g,0,none⟩)),eqv (.pointer (some ⟨p.g,0,none⟩)),eqv (.pointer (some ⟨p.g,4,none⟩)),eqv (.map (some p.f)),eqv (.pointer (some ⟨X,1,none⟩)),eqv (.int .i64 k),eqv (SV),eqv (.pointer (some ⟨X,0,none⟩)),eqv (.int .i64 id),fun v w=>∃ y,v=.slice (some ⟨y,0,none⟩) 1 1∧some y≠row∧Rec w y #[.int .i64 id] 2,fun v w=>w.ownsRow B0 2 1 v (n+1) (xs++[.int .i64 id])∧(v.ownBlock=SV.ownBlock∨∃ q,v.ownBlock=some q∧w0.heap.size≤q)∧∃ a c,v=.slice a (n+1) c]
structure Zgb (row:Option Nat) (w0:World) (p:GP) (id k:Int) (X B0:Nat) (SV:Value) (n:Nat) (xs:List Value) (c:Act):Prop where
 t0:c.eval (.tmp 0)=.pointer (some ⟨p.g,0,none⟩)
 t3:c.eval (.tmp 3)=.pointer (some ⟨X,0,none⟩)
structure Zeh (row:Option Nat) (w0:World) (p:GP) (id k:Int) (X B0:Nat) (SV:Value) (n:Nat) (xs:List Value) (w:World):Prop where
 cm:w.cell? ⟨p.g,4,none⟩=some (.map (some p.f))
 xk:w.cell? ⟨X,1,none⟩=some (.int .i64 k)
 xi:w.cell? ⟨X,0,none⟩=some (.int .i64 id)
 lk:(Instr.lookup 72 (.map (some p.f)) (.int .i64 k) false).run Tryz.prog w=.ok SV w
 rb:∀ q,row=some q→q<w.heap.size
theorem Zzk (row:Option Nat) (w0:World) (p:GP) (id k:Int) (X B0:Nat) (SV:Value) (n:Nat) (xs:List Value) (Q:Exit→Act→World→Prop) (c:Act) (w:World) (hb:Zgb row w0 p id k X B0 SV n xs c) (hW:Zeh row w0 p id k X B0 SV n xs w) (hF:∀ q0 ∈ Zhq 12,Zf (Zam row w0 p id k X B0 SV n xs) q0 (val Zix c q0) w) :
  Zak Tryz.prog Zix Q (Zf (Zam row w0 p id k X B0 SV n xs)) 12 c w:=by
 have ho:Zix[12]?=some (⟨some 16,.lookup 72 (.tmp 13) (.tmp 15) false,100, "edit.go:126",#[⟨9,.data⟩,⟨11,.data⟩],none⟩:Oper):=by kernel_rfl
 have e13:c.eval (.tmp 13)=.map (some p.f):=Zi (by kernel_rfl) rfl (hF 9 (by decide))
 have e15:c.eval (.tmp 15)=.int .i64 k:=Zi (by kernel_rfl) rfl (hF 11 (by decide))
 have hw:Region.wanted (⟨some 16,.lookup 72 (.tmp 13) (.tmp 15) false,100, "edit.go:126",#[⟨9,.data⟩,⟨11,.data⟩],none⟩:Oper) (yielded Zix c.tmps)=true:=Zn rfl
 have ec:=evc c
 have ef:=evf c
 have lk:=hW.lk
 refine Ze ho hw (v:=SV) ?_ rfl (Below.refl _ _)
 generalize c.eval=ρ at *
 clear hF hb hW hw ho
 go_simp
theorem Zzl (row:Option Nat) (w0:World) (p:GP) (id k:Int) (X B0:Nat) (SV:Value) (n:Nat) (xs:List Value) (Q:Exit→Act→World→Prop) (c:Act) (w:World) (hb:Zgb row w0 p id k X B0 SV n xs c) (hW:Zeh row w0 p id k X B0 SV n xs w) (hF:∀ q0 ∈ Zhq 15,Zf (Zam row w0 p id k X B0 SV n xs) q0 (val Zix c q0) w) :
  Zak Tryz.prog Zix Q (Zf (Zam row w0 p id k X B0 SV n xs)) 15 c w:=by
 have ho:Zix[15]?=some (⟨some 19,.buildSlice 100 1 #[(0,.tmp 18)],100, "edit.go:126",#[⟨14,.data⟩],none⟩:Oper):=by kernel_rfl
 have e18:c.eval (.tmp 18)=.int .i64 id:=Zi (by kernel_rfl) rfl (hF 14 (by decide))
 have hw:Region.wanted (⟨some 19,.buildSlice 100 1 #[(0,.tmp 18)],100, "edit.go:126",#[⟨14,.data⟩],none⟩:Oper) (yielded Zix c.tmps)=true:=Zn rfl
 have ec:=evc c
 have ef:=evf c
 refine Ze ho hw (v:=.slice (some ⟨w.heap.size,0,none⟩) 1 1) (w':=w.alloc (.cells #[.int .i64 id] 2)) ?_ ⟨w.heap.size,rfl,fun h=>by have:=hW.rb _ h.symm;omega,Zl _ _ _⟩ ((Below.refl _ _).alloc (Nat.le_refl _) _)
 generalize c.eval=ρ at *
 clear hF hb hW hw ho
 go_simp
theorem Zzm (row:Option Nat) (w0:World) (p:GP) (id k:Int) (X B0:Nat) (SV:Value) (n:Nat) (xs:List Value) (Q:Exit→Act→World→Prop) (c:Act) (w:World) (hb:Zgb row w0 p id k X B0 SV n xs c) (hW:Zeh row w0 p id k X B0 SV n xs w) (hO:w.ownsRow B0 2 1 SV n xs∧n≤4000000∧B0≤w.heap.size∧SV.ownBlock=row∧w0.heap.size≤w.heap.size) (hF:∀ q0 ∈ Zhq 16,Zf (Zam row w0 p id k X B0 SV n xs) q0 (val Zix c q0) w) :
  Zm9 Tryz.prog Zix Q (Zf (Zam row w0 p id k X B0 SV n xs)) (fun a b=>a.grownBy b row) 16 c w:=by
 have ho:Zix[16]?=some (⟨some 20,.call { callee:=.builtin .append,args:=#[.tmp 16,.tmp 19],argTypes:=#[100,100] },100, "edit.go:126",#[⟨12,.data⟩,⟨15,.data⟩],none⟩:Oper):=by kernel_rfl
 have e16:c.eval (.tmp 16)=SV:=Zi (by kernel_rfl) rfl (hF 12 (by decide))
 have f19:(fun v w=>∃ y,v=.slice (some ⟨y,0,none⟩) 1 1∧some y≠row∧Rec w y #[.int .i64 id] 2) (c.eval (.tmp 19)) w:=Je (by kernel_rfl) rfl (hF 15 (by decide))
 have hw:Region.wanted (⟨some 20,.call { callee:=.builtin .append,args:=#[.tmp 16,.tmp 19],argTypes:=#[100,100] },100, "edit.go:126",#[⟨12,.data⟩,⟨15,.data⟩],none⟩:Oper) (yielded Zix c.tmps)=true:=Zn rfl
 have ec:=evc c
 have ef:=evf c
 obtain ⟨i0,hi,hz0,hz1,hz2⟩:=info_parts Tryz.info2
 obtain ⟨y,e19,hyr,hy⟩:=f19
 obtain ⟨h1,h2,h3,h4,h5⟩:=hO
 obtain ⟨v',w',hrun,hown,hgr,_,hbl⟩:=run_append_own_at (P:=Tryz.prog) w B0 100 100 2 i0 (.int .i64 0) 1 8 Tryz.underlying100 hi hz0 hz1 hz2 rfl (by decide) SV n xs h1 ⟨y,0,none⟩ 1 1 [.int .i64 id] rfl (fun j u hj=>by
  have hadd:(⟨y,0,none⟩:Addr).add j=⟨y,j,none⟩:=by unfold Addr.add;split<;>simp_all
  rw [hadd]
  exact hy.cell j (by simpa using hj)) (by intro u hu;simp only [List.mem_cons,List.not_mem_nil,or_false] at hu;subst hu;rfl) (by unfold maxLen;omega) (by omega) h3
 obtain ⟨ua,uc,rfl⟩:=Zw hown
 refine Zdl ho hw (v:=.slice ua (n+1) uc) (w':=w') ?_ ⟨hown,hbl.imp (fun h=>h) fun h=>⟨_,h,h5⟩,ua,uc,rfl⟩ (h4▸hgr)
 exact Zb0 e16 e19 hrun
theorem Zsb (row:Option Nat) (w0:World) (p:GP) (id k:Int) (X B0:Nat) (SV:Value) (n:Nat) (xs:List Value):∀ pr ∈ Zam row w0 p id k X B0 SV n xs,Zbv pr:=by
 unfold Zam
 iterate 17 (first | refine List.forall_mem_cons.2 ⟨Jb _,?_⟩ | refine List.forall_mem_cons.2 ⟨fun v w w' ⟨y,h,hy,hr⟩ hb=>⟨y,h,hy,hr.below hb hr.lt⟩,?_⟩ | refine List.forall_mem_cons.2 ⟨fun v w w' ⟨h,h1,h2⟩ hb=>⟨Zt h fun g _ hg=>hb.block g hg,h1,h2⟩,?_⟩)
 exact List.forall_mem_nil _
theorem Zqh (row:Option Nat) (w0:World) (p:GP) (id k:Int) (X B0:Nat) (SV:Value) (n:Nat) (xs:List Value):∀ pr ∈ (Zam row w0 p id k X B0 SV n xs).set 16 (fun _ _=>True),Zgd row w0 pr:=by
 unfold Zam
 simp only [List.set_cons_succ,List.set_cons_zero]
 iterate 17 (first | refine List.forall_mem_cons.2 ⟨Zdo _ _ _,?_⟩ | refine List.forall_mem_cons.2 ⟨fun _ _ _ _ _ _=>trivial,?_⟩ | refine List.forall_mem_cons.2 ⟨fun v w w' ⟨y,h,hy,hr⟩ _ hg=>⟨y,h,hy,hr.keep (hg.block y hr.lt hy)⟩,?_⟩)
 exact List.forall_mem_nil _
theorem Jbp (row:Option Nat) (w0:World) (p:GP) (id k:Int) (X B0:Nat) (SV:Value) (n:Nat) (xs:List Value) (Q:Exit→Act→World→Prop):∀ i,i<17→(fun i=>i ∉ ([12,15,16]:List Nat)→∀ c w,Zgb row w0 p id k X B0 SV n xs c→Zeh row w0 p id k X B0 SV n xs w→(∀ q0 ∈ Zhq i,Zf (Zam row w0 p id k X B0 SV n xs) q0 (val Zix c q0) w)→Zak Tryz.prog Zix Q (Zf (Zam row w0 p id k X B0 SV n xs)) i c w) i:=by
 iterate 17 (refine Zd ?_ (by
  intro hn c w hb hW hF
  first
  | exact absurd (by decide) hn
  | (have hEq:=Zag Jbo (by decide) hF
     refine Zar Jbo (by decide) rfl (fun _=>rfl) ?_
     obtain ⟨t0,t3⟩:=hb
     obtain ⟨cm,xk,xi,lk,rb⟩:=hW
     have ec:=evc c
     have ef:=evf c
     dsimp only [Zhq,Je2,Zam,nth,Zcp,Zbd,eqv] at hEq ⊢
     refine .inl fun pos af=>?_
     clear hF hn
     dsimp only [Sig.oper]
     generalize c.eval=ρ at *
     go_simp
     done)))
 exact Zj
theorem Jbq (row:Option Nat) (w0:World) (p:GP) (id k:Int) (X B0:Nat) (SV:Value) (n:Nat) (xs:List Value) (Q:Exit→Act→World→Prop):∀ i,i<17→(fun i=>i≠16→∀ c w,Zgb row w0 p id k X B0 SV n xs c→Zeh row w0 p id k X B0 SV n xs w→(∀ q0 ∈ Zhq i,Zf (Zam row w0 p id k X B0 SV n xs) q0 (val Zix c q0) w)→Zak Tryz.prog Zix Q (Zf (Zam row w0 p id k X B0 SV n xs)) i c w) i:=by
 intro i hi hne
 by_cases h12:i=12
 ·subst h12;exact fun c w=>Zzk row w0 p id k X B0 SV n xs Q c w
 by_cases h15:i=15
 ·subst h15;exact fun c w=>Zzl row w0 p id k X B0 SV n xs Q c w
 exact Jbp row w0 p id k X B0 SV n xs Q i hi (by simp [*])
theorem Zsc (row:Option Nat) (w0:World) (p:GP) (id k:Int) (X B0:Nat) (SV:Value) (n:Nat) (xs:List Value) (Q:Exit→Act→World→Prop) (base:Act) (hsz:base.tmps.size=38) (hb:Zgb row w0 p id k X B0 SV n xs base)
  (hW:∀ w,w0.grownBy w row→Zeh row w0 p id k X B0 SV n xs w) (hO:∀ w,Below w0.heap.size w0 w→w.ownsRow B0 2 1 SV n xs∧n≤4000000∧B0≤w.heap.size∧SV.ownBlock=row∧w0.heap.size≤w.heap.size) (hL:∀ c w,Zae Zix base c→w0.grownBy w row→c.eval (.tmp 7)=.map (some p.f)→c.eval (.tmp 9)=.int .i64 k→(fun v w=>w.ownsRow B0 2 1 v (n+1) (xs++[.int .i64 id])∧(v.ownBlock=SV.ownBlock∨∃ q,v.ownBlock=some q∧w0.heap.size≤q)∧∃ a c,v=.slice a (n+1) c) (c.eval (.tmp 20)) w→∃ w',(execOp c.eval (⟨none,.mapUpdate 72 (.tmp 7) (.tmp 9) (.tmp 20),0, "edit.go:126",#[⟨3,.data⟩,⟨5,.data⟩,⟨16,.data⟩,⟨16,.chain⟩,⟨0,.phase⟩,⟨1,.phase⟩,⟨2,.phase⟩,⟨3,.phase⟩,⟨4,.phase⟩,⟨5,.phase⟩,⟨6,.phase⟩,⟨7,.phase⟩,⟨8,.phase⟩,⟨9,.phase⟩,⟨10,.phase⟩,⟨11,.phase⟩,⟨12,.phase⟩,⟨13,.phase⟩,⟨14,.phase⟩,⟨15,.phase⟩,⟨16,.phase⟩],none⟩:Oper)).run Tryz.prog w=.ok .skip w'∧Q .normal c w'):(Code.region 1 Zix true).wp Tryz.prog Q base w0:=by
 have hall:(List.range 17).all (fun i=>(Zu Zix i).isSome)=true:=by kernel_rfl
 refine Zdm (A:=Zhq) (F:=Zf (Zam row w0 p id k X B0 SV n xs)) (Rel:=fun a b=>a.grownBy b row) (fun _ _ h=>Za5 h) (fun _ _ _ h1 h2=>Zdn h1 h2) 17 (by kernel_rfl) (by kernel_rfl) (by kernel_rfl) (by rw [hsz];kernel_rfl) ?_ (by decide) 16 (fun i v w w' hf _ hb=>Jd (Zsb row w0 p id k X B0 SV n xs) i v w w' hf hb) (fun i hi v w w'=>Zbp (Zqh row w0 p id k X B0 SV n xs) i hi v w w') ?_ ?_ ?_
 ·exact fun i hi=>Option.isSome_iff_exists.1 (List.all_eq_true.1 hall i (List.mem_range.2 hi))
 ·intro i hi hne c w hS hB hF
  exact Jbq row w0 p id k X B0 SV n xs Q i hi hne c w ⟨(Zc hS (by kernel_rfl)).trans hb.t0,(Zc hS (by kernel_rfl)).trans hb.t3⟩ (hW w hB) hF
 ·intro hi c w hS hB hF
  exact Zzm row w0 p id k X B0 SV n xs Q c w ⟨(Zc hS (by kernel_rfl)).trans hb.t0,(Zc hS (by kernel_rfl)).trans hb.t3⟩ (hW w (Za5 hB)) (hO w hB) hF
 ·intro c w hS hB hF
  obtain ⟨w',h1,h2⟩:=hL c w hS hB (Je (p:=eqv (.map (some p.f))) (by kernel_rfl) rfl (hF 3 (by omega))) (Je (p:=eqv (.int .i64 k)) (by kernel_rfl) rfl (hF 5 (by omega))) (Je (p:=fun v w=>w.ownsRow B0 2 1 v (n+1) (xs++[.int .i64 id])∧(v.ownBlock=SV.ownBlock∨∃ q,v.ownBlock=some q∧w0.heap.size≤q)∧∃ a c,v=.slice a (n+1) c) (by kernel_rfl) rfl (hF 16 (by omega)))
  exact Za6 (by kernel_rfl) (Zn rfl) h1 h2
noncomputable def Ziy  : Array Oper:=Jg Tryz.f40 2
def Je3  : List Sig:=[⟨21,.move (.tmp 0),31,none⟩,⟨22,.nilCheck (.tmp 21),0,none⟩,⟨23,.fieldAddr 74 (.tmp 22) 2,0,none⟩,⟨24,.load 72 (.tmp 23),72,none⟩,⟨25,.fieldAddr 49 (.tmp 3) 2,0,none⟩,⟨26,.load 2 (.tmp 25),2,none⟩,⟨27,.move (.tmp 0),31,none⟩,⟨28,.nilCheck (.tmp 27),0,none⟩,⟨29,.fieldAddr 74 (.tmp 28) 2,0,none⟩,⟨30,.load 72 (.tmp 29),72,none⟩,⟨31,.fieldAddr 49 (.tmp 3) 2,0,none⟩,⟨32,.load 2 (.tmp 31),2,none⟩,⟨33,.lookup 72 (.tmp 30) (.tmp 32) false,100,none⟩,⟨34,.fieldAddr 49 (.tmp 3) 0,0,none⟩,⟨35,.load 2 (.tmp 34),2,none⟩,⟨36,.buildSlice 100 1 #[(0,.tmp 35)],100,none⟩,⟨37,.call { callee:=.builtin .append,args:=#[.tmp 33,.tmp 36],argTypes:=#[100,100] },100,none⟩]
theorem Jbr  : (Jq Ziy).take Je3.length=Je3.map some:=by kernel_rfl
def Zhr (i:Nat):List Nat:=nth [] [[],[0],[1],[2],[],[4],[],[6],[7],[8],[],[10],[9,11],[],[13],[14],[12,15],[0,1,2,3,4,5,6,7,8,9,10,11,12,13,14,15,16]] i
def Zan (row:Option Nat) (w0:World) (p:GP) (id k:Int) (X B0:Nat) (SV:Value) (n:Nat) (xs:List Value):List (Value→World→Prop) :=
 [eqv (.pointer (some ⟨p.g,0,none⟩)),eqv (.pointer (some ⟨p.g,0,none⟩)),eqv (.pointer (some ⟨p.g,5,none⟩)),eqv (.map (some p.t)),eqv (.pointer (some ⟨X,2,none⟩)),eqv (.int .i64 k),eqv (.pointer (some ⟨p.g,0,none⟩)),eqv (.pointer (some ⟨p.g,0,none⟩)),eqv (.pointer (some ⟨p.g,5,none⟩)),eqv (.map (some p.t)),eqv (.pointer (some ⟨X,2,none⟩)),eqv (.int .i64 k),eqv (SV),eqv (.pointer (some ⟨X,0,none⟩)),eqv (.int .i64 id),fun v w=>∃ y,v=.slice (some ⟨y,0,none⟩) 1 1∧some y≠row∧Rec w y #[.int .i64 id] 2,fun v w=>w.ownsRow B0 2 1 v (n+1) (xs++[.int .i64 id])∧(v.ownBlock=SV.ownBlock∨∃ q,v.ownBlock=some q∧w0.heap.size≤q)∧∃ a c,v=.slice a (n+1) c]
structure Zgc (row:Option Nat) (w0:World) (p:GP) (id k:Int) (X B0:Nat) (SV:Value) (n:Nat) (xs:List Value) (c:Act):Prop where
 t0:c.eval (.tmp 0)=.pointer (some ⟨p.g,0,none⟩)
 t3:c.eval (.tmp 3)=.pointer (some ⟨X,0,none⟩)
structure Zei (row:Option Nat) (w0:World) (p:GP) (id k:Int) (X B0:Nat) (SV:Value) (n:Nat) (xs:List Value) (w:World):Prop where
 cm:w.cell? ⟨p.g,5,none⟩=some (.map (some p.t))
 xk:w.cell? ⟨X,2,none⟩=some (.int .i64 k)
 xi:w.cell? ⟨X,0,none⟩=some (.int .i64 id)
 lk:(Instr.lookup 72 (.map (some p.t)) (.int .i64 k) false).run Tryz.prog w=.ok SV w
 rb:∀ q,row=some q→q<w.heap.size
theorem Zzn (row:Option Nat) (w0:World) (p:GP) (id k:Int) (X B0:Nat) (SV:Value) (n:Nat) (xs:List Value) (Q:Exit→Act→World→Prop) (c:Act) (w:World) (hb:Zgc row w0 p id k X B0 SV n xs c) (hW:Zei row w0 p id k X B0 SV n xs w) (hF:∀ q0 ∈ Zhr 12,Zf (Zan row w0 p id k X B0 SV n xs) q0 (val Ziy c q0) w) :
  Zak Tryz.prog Ziy Q (Zf (Zan row w0 p id k X B0 SV n xs)) 12 c w:=by
 have ho:Ziy[12]?=some (⟨some 33,.lookup 72 (.tmp 30) (.tmp 32) false,100, "edit.go:127",#[⟨9,.data⟩,⟨11,.data⟩],none⟩:Oper):=by kernel_rfl
 have e30:c.eval (.tmp 30)=.map (some p.t):=Zi (by kernel_rfl) rfl (hF 9 (by decide))
 have e32:c.eval (.tmp 32)=.int .i64 k:=Zi (by kernel_rfl) rfl (hF 11 (by decide))
 have hw:Region.wanted (⟨some 33,.lookup 72 (.tmp 30) (.tmp 32) false,100, "edit.go:127",#[⟨9,.data⟩,⟨11,.data⟩],none⟩:Oper) (yielded Ziy c.tmps)=true:=Zn rfl
 have ec:=evc c
 have ef:=evf c
 have lk:=hW.lk
 refine Ze ho hw (v:=SV) ?_ rfl (Below.refl _ _)
 generalize c.eval=ρ at *
 clear hF hb hW hw ho
 go_simp
theorem Zzo (row:Option Nat) (w0:World) (p:GP) (id k:Int) (X B0:Nat) (SV:Value) (n:Nat) (xs:List Value) (Q:Exit→Act→World→Prop) (c:Act) (w:World) (hb:Zgc row w0 p id k X B0 SV n xs c) (hW:Zei row w0 p id k X B0 SV n xs w) (hF:∀ q0 ∈ Zhr 15,Zf (Zan row w0 p id k X B0 SV n xs) q0 (val Ziy c q0) w) :
  Zak Tryz.prog Ziy Q (Zf (Zan row w0 p id k X B0 SV n xs)) 15 c w:=by
 have ho:Ziy[15]?=some (⟨some 36,.buildSlice 100 1 #[(0,.tmp 35)],100, "edit.go:127",#[⟨14,.data⟩],none⟩:Oper):=by kernel_rfl
 have e35:c.eval (.tmp 35)=.int .i64 id:=Zi (by kernel_rfl) rfl (hF 14 (by decide))
 have hw:Region.wanted (⟨some 36,.buildSlice 100 1 #[(0,.tmp 35)],100, "edit.go:127",#[⟨14,.data⟩],none⟩:Oper) (yielded Ziy c.tmps)=true:=Zn rfl
 have ec:=evc c
 have ef:=evf c
 refine Ze ho hw (v:=.slice (some ⟨w.heap.size,0,none⟩) 1 1) (w':=w.alloc (.cells #[.int .i64 id] 2)) ?_ ⟨w.heap.size,rfl,fun h=>by have:=hW.rb _ h.symm;omega,Zl _ _ _⟩ ((Below.refl _ _).alloc (Nat.le_refl _) _)
 generalize c.eval=ρ at *
 clear hF hb hW hw ho
 go_simp
theorem Zzp (row:Option Nat) (w0:World) (p:GP) (id k:Int) (X B0:Nat) (SV:Value) (n:Nat) (xs:List Value) (Q:Exit→Act→World→Prop) (c:Act) (w:World) (hb:Zgc row w0 p id k X B0 SV n xs c) (hW:Zei row w0 p id k X B0 SV n xs w) (hO:w.ownsRow B0 2 1 SV n xs∧n≤4000000∧B0≤w.heap.size∧SV.ownBlock=row∧w0.heap.size≤w.heap.size) (hF:∀ q0 ∈ Zhr 16,Zf (Zan row w0 p id k X B0 SV n xs) q0 (val Ziy c q0) w) :
  Zm9 Tryz.prog Ziy Q (Zf (Zan row w0 p id k X B0 SV n xs)) (fun a b=>a.grownBy b row) 16 c w:=by
 have ho:Ziy[16]?=some (⟨some 37,.call { callee:=.builtin .append,args:=#[.tmp 33,.tmp 36],argTypes:=#[100,100] },100, "edit.go:127",#[⟨12,.data⟩,⟨15,.data⟩],none⟩:Oper):=by kernel_rfl
 have e33:c.eval (.tmp 33)=SV:=Zi (by kernel_rfl) rfl (hF 12 (by decide))
 have f36:(fun v w=>∃ y,v=.slice (some ⟨y,0,none⟩) 1 1∧some y≠row∧Rec w y #[.int .i64 id] 2) (c.eval (.tmp 36)) w:=Je (by kernel_rfl) rfl (hF 15 (by decide))
 have hw:Region.wanted (⟨some 37,.call { callee:=.builtin .append,args:=#[.tmp 33,.tmp 36],argTypes:=#[100,100] },100, "edit.go:127",#[⟨12,.data⟩,⟨15,.data⟩],none⟩:Oper) (yielded Ziy c.tmps)=true:=Zn rfl
 have ec:=evc c
 have ef:=evf c
 obtain ⟨i0,hi,hz0,hz1,hz2⟩:=info_parts Tryz.info2
 obtain ⟨y,e36,hyr,hy⟩:=f36
 obtain ⟨h1,h2,h3,h4,h5⟩:=hO
 obtain ⟨v',w',hrun,hown,hgr,_,hbl⟩:=run_append_own_at (P:=Tryz.prog) w B0 100 100 2 i0 (.int .i64 0) 1 8 Tryz.underlying100 hi hz0 hz1 hz2 rfl (by decide) SV n xs h1 ⟨y,0,none⟩ 1 1 [.int .i64 id] rfl (fun j u hj=>by
  have hadd:(⟨y,0,none⟩:Addr).add j=⟨y,j,none⟩:=by unfold Addr.add;split<;>simp_all
  rw [hadd]
  exact hy.cell j (by simpa using hj)) (by intro u hu;simp only [List.mem_cons,List.not_mem_nil,or_false] at hu;subst hu;rfl) (by unfold maxLen;omega) (by omega) h3
 obtain ⟨ua,uc,rfl⟩:=Zw hown
 refine Zdl ho hw (v:=.slice ua (n+1) uc) (w':=w') ?_ ⟨hown,hbl.imp (fun h=>h) fun h=>⟨_,h,h5⟩,ua,uc,rfl⟩ (h4▸hgr)
 exact Zb0 e33 e36 hrun
theorem Zsd (row:Option Nat) (w0:World) (p:GP) (id k:Int) (X B0:Nat) (SV:Value) (n:Nat) (xs:List Value):∀ pr ∈ Zan row w0 p id k X B0 SV n xs,Zbv pr:=by
 unfold Zan
 iterate 17 (first | refine List.forall_mem_cons.2 ⟨Jb _,?_⟩ | refine List.forall_mem_cons.2 ⟨fun v w w' ⟨y,h,hy,hr⟩ hb=>⟨y,h,hy,hr.below hb hr.lt⟩,?_⟩ | refine List.forall_mem_cons.2 ⟨fun v w w' ⟨h,h1,h2⟩ hb=>⟨Zt h fun g _ hg=>hb.block g hg,h1,h2⟩,?_⟩)
 exact List.forall_mem_nil _
theorem Zqi (row:Option Nat) (w0:World) (p:GP) (id k:Int) (X B0:Nat) (SV:Value) (n:Nat) (xs:List Value):∀ pr ∈ (Zan row w0 p id k X B0 SV n xs).set 16 (fun _ _=>True),Zgd row w0 pr:=by
 unfold Zan
 simp only [List.set_cons_succ,List.set_cons_zero]
 iterate 17 (first | refine List.forall_mem_cons.2 ⟨Zdo _ _ _,?_⟩ | refine List.forall_mem_cons.2 ⟨fun _ _ _ _ _ _=>trivial,?_⟩ | refine List.forall_mem_cons.2 ⟨fun v w w' ⟨y,h,hy,hr⟩ _ hg=>⟨y,h,hy,hr.keep (hg.block y hr.lt hy)⟩,?_⟩)
 exact List.forall_mem_nil _
theorem Jbs (row:Option Nat) (w0:World) (p:GP) (id k:Int) (X B0:Nat) (SV:Value) (n:Nat) (xs:List Value) (Q:Exit→Act→World→Prop):∀ i,i<17→(fun i=>i ∉ ([12,15,16]:List Nat)→∀ c w,Zgc row w0 p id k X B0 SV n xs c→Zei row w0 p id k X B0 SV n xs w→(∀ q0 ∈ Zhr i,Zf (Zan row w0 p id k X B0 SV n xs) q0 (val Ziy c q0) w)→Zak Tryz.prog Ziy Q (Zf (Zan row w0 p id k X B0 SV n xs)) i c w) i:=by
 iterate 17 (refine Zd ?_ (by
  intro hn c w hb hW hF
  first
  | exact absurd (by decide) hn
  | (have hEq:=Zag Jbr (by decide) hF
     refine Zar Jbr (by decide) rfl (fun _=>rfl) ?_
     obtain ⟨t0,t3⟩:=hb
     obtain ⟨cm,xk,xi,lk,rb⟩:=hW
     have ec:=evc c
     have ef:=evf c
     dsimp only [Zhr,Je3,Zan,nth,Zcp,Zbd,eqv] at hEq ⊢
     refine .inl fun pos af=>?_
     clear hF hn
     dsimp only [Sig.oper]
     generalize c.eval=ρ at *
     go_simp
     done)))
 exact Zj
theorem Jbt (row:Option Nat) (w0:World) (p:GP) (id k:Int) (X B0:Nat) (SV:Value) (n:Nat) (xs:List Value) (Q:Exit→Act→World→Prop):∀ i,i<17→(fun i=>i≠16→∀ c w,Zgc row w0 p id k X B0 SV n xs c→Zei row w0 p id k X B0 SV n xs w→(∀ q0 ∈ Zhr i,Zf (Zan row w0 p id k X B0 SV n xs) q0 (val Ziy c q0) w)→Zak Tryz.prog Ziy Q (Zf (Zan row w0 p id k X B0 SV n xs)) i c w) i:=by
 intro i hi hne
 by_cases h12:i=12
 ·subst h12;exact fun c w=>Zzn row w0 p id k X B0 SV n xs Q c w
 by_cases h15:i=15
 ·subst h15;exact fun c w=>Zzo row w0 p id k X B0 SV n xs Q c w
 exact Jbs row w0 p id k X B0 SV n xs Q i hi (by simp [*])
theorem Zse (row:Option Nat) (w0:World) (p:GP) (id k:Int) (X B0:Nat) (SV:Value) (n:Nat) (xs:List Value) (Q:Exit→Act→World→Prop) (base:Act) (hsz:base.tmps.size=38) (hb:Zgc row w0 p id k X B0 SV n xs base)
  (hW:∀ w,w0.grownBy w row→Zei row w0 p id k X B0 SV n xs w) (hO:∀ w,Below w0.heap.size w0 w→w.ownsRow B0 2 1 SV n xs∧n≤4000000∧B0≤w.heap.size∧SV.ownBlock=row∧w0.heap.size≤w.heap.size) (hL:∀ c w,Zae Ziy base c→w0.grownBy w row→c.eval (.tmp 24)=.map (some p.t)→c.eval (.tmp 26)=.int .i64 k→(fun v w=>w.ownsRow B0 2 1 v (n+1) (xs++[.int .i64 id])∧(v.ownBlock=SV.ownBlock∨∃ q,v.ownBlock=some q∧w0.heap.size≤q)∧∃ a c,v=.slice a (n+1) c) (c.eval (.tmp 37)) w→∃ w',(execOp c.eval (⟨none,.mapUpdate 72 (.tmp 24) (.tmp 26) (.tmp 37),0, "edit.go:127",#[⟨3,.data⟩,⟨5,.data⟩,⟨16,.data⟩,⟨16,.chain⟩,⟨0,.phase⟩,⟨1,.phase⟩,⟨2,.phase⟩,⟨3,.phase⟩,⟨4,.phase⟩,⟨5,.phase⟩,⟨6,.phase⟩,⟨7,.phase⟩,⟨8,.phase⟩,⟨9,.phase⟩,⟨10,.phase⟩,⟨11,.phase⟩,⟨12,.phase⟩,⟨13,.phase⟩,⟨14,.phase⟩,⟨15,.phase⟩,⟨16,.phase⟩],none⟩:Oper)).run Tryz.prog w=.ok .skip w'∧Q .normal c w'):(Code.region 2 Ziy true).wp Tryz.prog Q base w0:=by
 have hall:(List.range 17).all (fun i=>(Zu Ziy i).isSome)=true:=by kernel_rfl
 refine Zdm (A:=Zhr) (F:=Zf (Zan row w0 p id k X B0 SV n xs)) (Rel:=fun a b=>a.grownBy b row) (fun _ _ h=>Za5 h) (fun _ _ _ h1 h2=>Zdn h1 h2) 17 (by kernel_rfl) (by kernel_rfl) (by kernel_rfl) (by rw [hsz];kernel_rfl) ?_ (by decide) 16 (fun i v w w' hf _ hb=>Jd (Zsd row w0 p id k X B0 SV n xs) i v w w' hf hb) (fun i hi v w w'=>Zbp (Zqi row w0 p id k X B0 SV n xs) i hi v w w') ?_ ?_ ?_
 ·exact fun i hi=>Option.isSome_iff_exists.1 (List.all_eq_true.1 hall i (List.mem_range.2 hi))
 ·intro i hi hne c w hS hB hF
  exact Jbt row w0 p id k X B0 SV n xs Q i hi hne c w ⟨(Zc hS (by kernel_rfl)).trans hb.t0,(Zc hS (by kernel_rfl)).trans hb.t3⟩ (hW w hB) hF
 ·intro hi c w hS hB hF
  exact Zzp row w0 p id k X B0 SV n xs Q c w ⟨(Zc hS (by kernel_rfl)).trans hb.t0,(Zc hS (by kernel_rfl)).trans hb.t3⟩ (hW w (Za5 hB)) (hO w hB) hF
 ·intro c w hS hB hF
  obtain ⟨w',h1,h2⟩:=hL c w hS hB (Je (p:=eqv (.map (some p.t))) (by kernel_rfl) rfl (hF 3 (by omega))) (Je (p:=eqv (.int .i64 k)) (by kernel_rfl) rfl (hF 5 (by omega))) (Je (p:=fun v w=>w.ownsRow B0 2 1 v (n+1) (xs++[.int .i64 id])∧(v.ownBlock=SV.ownBlock∨∃ q,v.ownBlock=some q∧w0.heap.size≤q)∧∃ a c,v=.slice a (n+1) c) (by kernel_rfl) rfl (hF 16 (by omega)))
  exact Za6 (by kernel_rfl) (Zn rfl) h1 h2
end
