import Derived.Test.YteddjlbfbpecjaaGreatDoorJoin12
import Derived.StringKeys
namespace Go.Proofs.YteddjlbfbpecjaaGreatDoor
set_option maxHeartbeats 4000000
set_option maxRecDepth 100000
set_option linter.all false
section
open Go.RowKit Go.Shelf
set_option maxRecDepth 100000 in
set_option maxHeartbeats 4000000 in
theorem Zg8 (T:Zi) (B:Nat) (v:Value) (w:World) (hB:B<=w.heap.size) (hv:Zaw B w v T) (hT:Zhx w) (hm:Zas T):Calls Tryz.prog 129 #[v] w fun e w'=>e=.returned (.bool (decide (checkN T=0)&&Zg3 T))/\Below w.heap.size w w':=by
 obtain ⟨k,x,n,s,ks,ts⟩:=T
 have O:=hv
 simp only [Zaw] at hv
 obtain ⟨ka,kc,la,lc,rfl,⟨b6,b4,b5,b2,a8⟩,hk,ht⟩:=hv
 unfold maxLen at a8
 obtain ⟨h,u⟩:∃ h,w.alloc (.cells #[.int .i64 k,.bool x,.int .i64 n,.string s,.slice ka ks.length kc,.slice la ts.length lc] 60)=h:=⟨_,rfl⟩
 have l:Below w.heap.size w h:=u▸(Below.refl _ _).alloc (Nat.le_refl _) _
 have I:h.heap[w.heap.size]?=some (.cells #[.int .i64 k,.bool x,.int .i64 n,.string s,.slice ka ks.length kc,.slice la ts.length lc] 60 (0,0)):=u▸World.alloc_heap_new _ _
 have U:w.heap.size<h.heap.size:=(Array.getElem?_eq_some_iff.1 I).1
 have HX:Hid (∀ W,Below h.heap.size h W->Below w.heap.size w W/\W.cell? ⟨w.heap.size,0,none⟩=some (.int .i64 k)/\W.cell? ⟨w.heap.size,5,none⟩=some (.slice la ts.length lc)):=fun W hb=>by
  have e:=(hb.block _ U).trans I
  exact ⟨l.trans (hb.mono (by omega)),by unfold World.cell?;simp only [e];rfl,by unfold World.cell?;simp only [e];rfl⟩
 have HT:Hid (ts=[]\/∃ z off,la=some ⟨z,off,none⟩/\z<B/\KidsLie B w z off ts):=ht
 have C:=Zb (Zm6 _ _ h ((O.below (l.mono hB)).mono (Nat.le_trans hB l.size)) (hT.below l) hm.1 hm.2)
 have a1:=Zb u
 obtain ⟨P,a0⟩:∃ c,checkN (.mk k x n s ks ts)=c:=⟨_,rfl⟩
 rw [a0] at C |-
 have HS:Hid (Zg3 (.mk k x n s ks ts)=(if k=4 then ts.all fun t=>Zar t.kind&&(t.kind==Zb2 ts) else Zar k)):=rfl
 clear u I ht hk O hT hm a0
 go_enter Tryz.func129,Tryz.ntmps129
 go_wp2_with fail
 rw [a1.out]
 refine C.out.mono ?_
 rintro e w2 ⟨rfl,F⟩
 have a9:=Zb F
 obtain ⟨A,q0,q5⟩:=HX.out w2 F
 have y:=Zb A
 clear F A a1 C
 by_cases hc:P=0
 ·have a6:(P != 0)=false:=by simp [hc]
  have M:Hid (decide (P=0)=true):=decide_eq_true hc
  clear hc
  by_cases k4:k=4
  ·have a5:(k != 4)=false:=by simp [k4]
   have g:Hid (Zg3 (.mk k x n s ks ts)=ts.all fun t=>Zar t.kind&&(t.kind==Zb2 ts)):=HS.out.trans (if_pos k4)
   clear HS k4
   go_wp2_with fail
   clear q0 q5
   go_loopw [17] (fun i wr=>∃ j:Nat,j<=ts.length/\i=.int .i64 j/\Below h.heap.size h wr/\(ts.take j).all (fun t=>Zar t.kind&&(t.kind==Zb2 ts))=true) (fun i _=>ts.length - (intOf i).toNat)
   case atStart=>exact ⟨0,Nat.zero_le _,rfl,a9.out,rfl⟩
   case round =>
    obtain ⟨j,hj,rfl,D,R⟩:=hrel
    have G:=Zb D
    have V:=Zb R
    obtain ⟨a2,q0,q5⟩:=HX.out wr D
    have d:=Zb a2
    clear D a2 R
    by_cases hlt:j<ts.length
    ·obtain ⟨z,off,rfl,b0,Y⟩:=HT.out.resolve_left (by intro e;subst e;simp at hlt)
     obtain ⟨⟨r,p1,p2,p3,p4,p5⟩,hx⟩:∃ t,ts[j]?=some t:=⟨_,List.getElem?_eq_getElem hlt⟩
     have L:=Y.below (d.out.mono hB) b0
     obtain ⟨ja,jc,jl,jd,⟨c0,c1,c2,c3,c4,c5⟩,_⟩:=L.cells hx
     have d0:=L.first (by omega)
     have H:=Zb hx
     obtain ⟨Q,E⟩:∃ f,Zb2 ts=f:=⟨_,rfl⟩
     rw [E] at d0
     have a3:=Zb E
     have b3:(0:Int)<ts.length:=by omega
     have a7:z<wr.heap.size:=by have:=d.out.size;omega
     have a4:w.heap.size<wr.heap.size:=by have:=G.out.size;omega
     obtain ⟨pp,a⟩:∃ b,Zar r=b:=⟨_,rfl⟩
     have o:=Zb a
     have X:Hid (∀ W,Calls Tryz.prog 169 #[.int .i64 r] W fun e w'=>e=.returned (.bool pp)/\w'=W):=fun W=>by
      rw [<- a];exact Znp _ _
     clear Y L hx E a
     obtain ⟨N,m⟩:∃ N,wr.alloc (.cells #[.int .i64 r,.bool p1,.int .i64 p2,.string p3,.slice ja p4.length jc,.slice jl p5.length jd] 60)=N:=⟨_,rfl⟩
     have q:Below wr.heap.size wr N:=m▸(Below.refl _ _).alloc (Nat.le_refl _) _
     have z0:N.cell? ⟨wr.heap.size,0,none⟩=some (.int .i64 r):=m▸Zaj _ _ _ _ _ rfl
     have z5:N.cell? ⟨w.heap.size,5,none⟩=some (.slice (some ⟨z,off,none⟩) ts.length lc):=(q.cell (p:=⟨w.heap.size,5,none⟩) a4).trans q5
     have zd:N.cell? ⟨z,off,none⟩=some (.int .i64 Q):=(q.cell (p:=⟨z,off,none⟩) a7).trans d0
     have K:=Zb q
     have b1:=Zb m
     clear q m
     go_wp2_with fail
     rw [b1.out]
     clear c0 c1 c2 c3 c4 c5 q0 q5 d0
     cases pp with
     | true =>
      go_quiet ((go_at_call 169;exact Calls.quiet_of_same (X.out _)))
      by_cases e:r=Q
      ·have e':(r != Q)=false:=by simp [e]
       go_wp2_with fail
       go_roundw
       case rel=>exact ⟨j+1,by omega,by go_num,below_drewN (G.out.trans (K.out.mono G.out.size)) _,Zgd V.out H.out (by rw [a3.out];show (Zar r&&(r==Q))=true;rw [o.out];simp [e])⟩
       case measure=>simp [intOf];omega
      ·have e':(r != Q)=true:=by simp [e]
       have S:Hid ((ts.all fun t=>Zar t.kind&&(t.kind==Zb2 ts))=false):=Zjd H.out (by rw [a3.out];simp [Zi.kind,e])
       go_wp2_with fail
       go_ret
       exact ⟨by rw [M.out,g.out,S.out];rfl,below_drewN (d.out.trans (K.out.mono d.out.size)) _⟩
     | false =>
      have S:Hid ((ts.all fun t=>Zar t.kind&&(t.kind==Zb2 ts))=false):=Zjd H.out (by simp [Zi.kind,o.out])
      go_quiet ((go_at_call 169;exact Calls.quiet_of_same (X.out _)))
      go_wp2_with fail
      go_ret
      exact ⟨by rw [M.out,g.out,S.out];rfl,below_drewN (d.out.trans (K.out.mono d.out.size)) _⟩
    ·have S:Hid ((ts.all fun t=>Zar t.kind&&(t.kind==Zb2 ts))=true):=by
      have:=V.out
      rw [List.take_of_length_le (by omega)] at this
      exact this
     go_wp2_with fail
     go_ret
     exact ⟨by rw [M.out,g.out,S.out];rfl,d.out⟩
  ·have a5:(k != 4)=true:=by simp [k4]
   have g:Hid (Zg3 (.mk k x n s ks ts)=Zar k):=HS.out.trans (if_neg k4)
   clear HS
   go_wp2_with fail
   refine (Znp _ _).mono ?_
   rintro e w3 ⟨rfl,rfl⟩
   obtain ⟨pp,a⟩:∃ b,Zar k=b:=⟨_,rfl⟩
   rw [a]
   have o:=Zb a
   clear a
   go_wp2_with fail
   go_ret
   exact ⟨by rw [M.out,g.out,o.out];rfl,y.out⟩
 ·have a6:(P != 0)=true:=by simp [hc]
  have M:Hid (decide (P=0)=false):=decide_eq_false hc
  clear hc
  go_wp2_with fail
  go_ret
  exact ⟨by rw [M.out];rfl,y.out⟩
end
section
open Go.RowKit
abbrev Jfl (k:Int) (b:Bool) (n:Int) (s:ByteArray):Value:=.agg #[.int .i64 k,.bool b,.int .i64 n,.string s,.slice none 0 0,.slice none 0 0]
theorem Zz6 (w:World):Calls Tryz.prog 170 #[] w fun e w'=>e=.returned (Jfl 0 false 0 ⟨#[]⟩)/\Below w.heap.size w w':=by
 go_enter Tryz.func170,Tryz.ntmps170
 go_wp2
 exact bodyPost_ret (v:=Jfl 0 false 0 ⟨#[]⟩) (by simp [results,Tryz.results170,go_sem]) rfl ⟨rfl,(Below.refl _ _).alloc (Nat.le_refl _) _⟩
end
section
open Go.RowKit Go.Shelf Go.WideShapes Go.Lib
def Zb1 (w:World) (b:Nat) (ss:List ByteArray):Prop:=∃ es a,w.heap[b]?=some (.map es a)/\es.toList.map (·.key)=ss.map Value.string/\(∀ e ∈ es.toList,e.val=.agg #[])/\∀ s ∈ ss,s.size<=maxLen
theorem Zb1.block {w w':World} {b:Nat} {ss:List ByteArray} (h:Zb1 w b ss) (u:w'.heap[b]?=w.heap[b]?):Zb1 w' b ss:=by
 obtain ⟨es,a,h1,h2⟩:=h
 exact ⟨es,a,u.trans h1,h2⟩
theorem Zb1.lt {w:World} {b:Nat} {ss:List ByteArray} (h:Zb1 w b ss):b<w.heap.size:=by
 obtain ⟨es,a,h1,_⟩:=h
 exact (Array.getElem?_eq_some_iff.1 h1).1
theorem Zxb (w:World):Zb1 (w.alloc (.map #[] 0)) w.heap.size []:=⟨#[],0,World.alloc_heap_new _ _,rfl,by simp,by simp⟩
theorem Tryz.underlying172'  : Tryz.prog.underlying 172=some (.map 9 173):=by kernel_rfl
theorem Jda (w:World):(zeroValue 173).run Tryz.prog w=.ok (.agg #[]) w:=by kernel_rfl
theorem Zn8 {es:Array MapEntry} {ss:List ByteArray} (h:es.toList.map (·.key)=ss.map Value.string) (i:∀ s ∈ ss,s.size<=maxLen):∀ e ∈ es.toList,∃ l,Go.keyOf Tryz.prog 9 e.key=some l:=by
 intro e d
 have:e.key ∈ ss.map Value.string:=by rw [<- h];exact List.mem_map.2 ⟨e,d,rfl⟩
 obtain ⟨s,v,e1⟩:=List.mem_map.1 this
 exact ⟨_,by rw [<- e1];exact WideMaps.keyOf_string_mk Tryz.underlying9 (i s v)⟩
theorem Jar {w:World} {b:Nat} {ss:List ByteArray} (h:Zb1 w b ss) (s:ByteArray) (i:s.size<=maxLen) (z:s ∉ ss) :
  ∃ w',(Instr.mapUpdate 172 (.map (some b)) (.string s) (.agg #[])).run Tryz.prog w=.ok () w'/\Zb1 w' b (ss++[s])/\w'.heap.size=w.heap.size/\(∀ k,k≠b->w'.heap[k]?=w.heap[k]?)/\Below b w w':=by
 obtain ⟨es,a,h1,h2,h3,r⟩:=h
 have n:b<w.heap.size:=(Array.getElem?_eq_some_iff.1 h1).1
 have K:=WideMaps.string_law (P:=Tryz.prog) Tryz.underlying9
 have c:=WideMaps.keyOf_string_mk (P:=Tryz.prog) Tryz.underlying9 i
 rcases K.find w c es.toList (Zn8 h2 r) with ⟨p,t⟩ | ⟨j,m,p,t,y⟩
 ·refine ⟨{ w with heap:=w.heap.setIfInBounds b (.map (es.push ⟨.string s,.agg #[],a⟩) (a+1)) },?_,⟨es.push ⟨.string s,.agg #[],a⟩,a+1,?_,?_,?_,?_⟩,?_,?_,⟨rfl,rfl,rfl,?_,?_⟩⟩
  ·simp [Instr.mapUpdate,run_underlying Tryz.underlying172',MapKept.run_getObj_map h1,K.check w false c,p,MapKept.run_setObj_map _ h1,Result.andThen]
  ·simp [n]
  ·simp [h2]
  ·intro e d
   simp only [Array.toList_push,List.mem_append,List.mem_singleton] at d
   rcases d with d | rfl
   ·exact h3 e d
   ·rfl
  ·intro x f
   rcases List.mem_append.1 f with f | f
   ·exact r x f
   ·simp only [List.mem_cons,List.not_mem_nil,or_false] at f;rw [f];exact i
  ·simp
  ·intro k q
   simp [Array.getElem?_setIfInBounds_ne (Ne.symm q)]
  ·simp
  ·intro k q
   have:k≠b:=by omega
   simp [Array.getElem?_setIfInBounds_ne (Ne.symm this)]
 ·exfalso
  have o:m ∈ es.toList:=List.mem_of_getElem? t
  have:m.key ∈ es.toList.map (·.key):=List.mem_map.2 ⟨m,o,rfl⟩
  rw [h2,y] at this
  obtain ⟨B,g,e1⟩:=List.mem_map.1 this
  simp only [Value.string.injEq] at e1
  rw [e1] at g
  exact z g
end
section
open Go.RowKit Go.Shelf
attribute [local go_sem] Oper.semAt_some
theorem Zab.below' {B:Nat} {w w':World} (h:Below B w w') {U:Option Addr} {ks:List ByteArray} (C:Zab B w U ks):Zab B w' U ks :=
 C.imp id fun ⟨b,off,e,c,V⟩=>⟨b,off,e,c,fun i hi=>⟨(h.cell (p:=⟨b,off+i,none⟩) c).trans (V i hi).1,(V i hi).2⟩⟩
def Zhg (ks:List ByteArray):Bool:=ks.all fun x=>Ju x.data.toList
theorem Zhh (ks:List ByteArray) (B:Nat) (ka:Option Addr) (kc:Nat) (w:World) (q:B<=w.heap.size) (C:Zab B w ka ks) (h1:ks.length<=kc) (h2:kc<=9223372036854775807) (R:∀ x ∈ ks,x.size<=140737488355328) (t:Env w) (Q:3<=B) :
  Calls Tryz.prog 85 #[.slice ka ks.length kc] w fun e w'=>e=.returned (.bool (Zhg ks))/\Below w.heap.size w w':=by
 have HK:=Zb C
 have A:=Zb t
 have E:=Zb R
 obtain ⟨m,l⟩:∃ m,ks.length=m:=⟨_,rfl⟩
 rw [l] at h1 |-
 have y:=Zb l
 clear l C t R
 go_enter Tryz.func85,Tryz.ntmps85
 go_wp2_with fail
 go_loopw [7] (fun i wr=>∃ j:Nat,j<=m/\i=.int .i64 j/\Below w.heap.size w wr/\Zhg (ks.take j)=true) (fun i _=>m - (intOf i).toNat)
 case atStart=>exact ⟨0,Nat.zero_le _,rfl,Below.refl _ _,rfl⟩
 case round =>
  obtain ⟨j,hj,rfl,c,hn⟩:=hrel
  have F:=Zb c
  have D:=Zb hn
  clear c hn
  by_cases hlt:j<m
  ·have z:(j:Int)<m:=by omega
   obtain ⟨b,off,f2,a0,o⟩:=(HK.out.below' (F.out.mono q)).resolve_left (by intro e;rw [e] at y;have:=y.out;simp at this;omega)
   have O:ks[j]?=some (ks.getD j ⟨#[]⟩):=by
    have hl:j<ks.length:=by rw [y.out];exact hlt
    simp [List.getD,hl]
   have c0:=(o j (by rw [y.out];exact hlt)).1
   have d:=E.out _ (List.mem_of_getElem? O)
   have N:=Zb O
   generalize ks.getD j ⟨#[]⟩=x at c0 d N
   have K:=Zb (Zev x d wr (A.out.below F.out (Nat.le_trans Q q)))
   have Y:Hid (Ju x.data.toList=false->Zhg ks=false):=fun e=>by
    unfold Zhg
    rw [List.all_eq_false]
    exact ⟨x,List.mem_of_getElem? N.out,by simp [e]⟩
   have HG:Hid (Ju x.data.toList=true->Zhg (ks.take (j+1))=true):=fun e=>by
    have h:=D.out
    unfold Zhg at h |-
    rw [List.take_add_one,N.out,List.all_append,h]
    simp [e]
   generalize Ju x.data.toList=u at K Y HG
   subst f2
   clear o d O
   go_wp2_with fail
   refine K.out.mono ?_
   rintro e w2 ⟨rfl,f⟩
   have r:=Zb (Za F.out f)
   clear f c0 K
   cases u with
   | true =>
    go_wp2_with fail
    go_roundw
    case rel=>exact ⟨j+1,by omega,by go_num,r.out,HG.out (by simp)⟩
    case measure=>simp [intOf];omega
   | false =>
    go_wp2_with fail
    go_ret
    exact ⟨by rw [Y.out (by simp)];rfl,r.out⟩
  ·have z:¬ (j:Int)<m:=by omega
   have HZ:Hid (Zhg ks=true):=by
    have h:=D.out
    rw [List.take_of_length_le (by rw [y.out];omega)] at h
    exact h
   go_wp2_with fail
   go_ret
   exact ⟨by rw [HZ.out];rfl,F.out⟩
def Zgp  : Zi:=.mk 0 false 0 ⟨#[]⟩ [] []
theorem Zt7 (B:Nat) (w:World):Zaw B w (Jfl 0 false 0 ⟨#[]⟩) Zgp:=by
 unfold Zgp
 simp only [Zaw]
 exact ⟨none,0,none,0,rfl,⟨by unfold maxLen;decide,Nat.le_refl _,Nat.zero_le _,Nat.le_refl _,Nat.zero_le _⟩,Or.inl (by simp),Or.inl (by simp)⟩
theorem Zow  : Zas Zgp:=⟨by decide,by decide⟩
theorem Zk6 (T:Zi) (B:Nat) (v:Value) (w:World) (q:B<=w.heap.size) (G:Zaw B w v T) (t:Env w) (l:Zas T):Calls Tryz.prog 130 #[v] w fun e w'=>e=.returned (.bool (Zcu T Zgp))/\Below w.heap.size w w':=by
 obtain ⟨k,x,n,s,ks,ts⟩:=T
 have HV:=Zb G
 simp only [Zaw] at G
 obtain ⟨ka,kc,la,lc,rfl,_,_,_⟩:=G
 have A:=Zb t
 have M:=Zb l
 clear t l
 go_enter Tryz.func130,Tryz.ntmps130
 go_upto_region 1 with fail
 generalize g:World.alloc _ _=W1
 have L:Hid (Below w.heap.size w W1):=by rw [<- g];exact (Below.refl _ _).alloc (Nat.le_refl _) _
 have a:=Zl w #[.int .i64 k,.bool x,.int .i64 n,.string s,.slice ka ks.length kc,.slice la ts.length lc] 60
 rw [g] at a
 have c0:=a.cell 0 rfl
 have c1:=a.cell 1 rfl
 have c2:=a.cell 2 rfl
 have c3:=a.cell 3 rfl
 have c4:=a.cell 4 rfl
 have c5:=a.cell 5 rfl
 have X:=Zb a
 clear g a
 have E:Hid (∀ W,Below W1.heap.size W1 W->Calls Tryz.prog 152 #[.agg #[.int .i64 k,.bool x,.int .i64 n,.string s,.slice ka ks.length kc,.slice la ts.length lc],Jfl 0 false 0 ⟨#[]⟩] W fun e w'=>e=.returned (.bool (Zcu (.mk k x n s ks ts) Zgp))/\Below w.heap.size w w'):=fun W I=>by
  have c:=Za L.out I
  refine (Zrb _ _ B _ _ W (Nat.le_trans q c.size) (HV.out.below (c.mono q)) (Zt7 _ _) (A.out.below c A.out.room).tabs M.out Zow).mono ?_
  rintro e w' ⟨rfl,h⟩
  exact ⟨rfl,Za c h⟩
 have D:Hid (∀ W,Below W1.heap.size W1 W->Calls Tryz.prog 170 #[] W fun e w'=>e=.returned (Jfl 0 false 0 ⟨#[]⟩)/\Below W1.heap.size W1 w'/\w'.cell? ⟨w.heap.size,0,none⟩=some (.int .i64 k)/\w'.cell? ⟨w.heap.size,1,none⟩=some (.bool x)/\w'.cell? ⟨w.heap.size,2,none⟩=some (.int .i64 n)/\w'.cell? ⟨w.heap.size,3,none⟩=some (.string s)/\w'.cell? ⟨w.heap.size,4,none⟩=some (.slice ka ks.length kc)/\w'.cell? ⟨w.heap.size,5,none⟩=some (.slice la ts.length lc)):=fun W I=>by
  refine (Zz6 W).mono ?_
  rintro e w' ⟨rfl,h⟩
  have c:=Za I h
  have a:=X.out.below c X.out.lt
  exact ⟨rfl,c,a.cell 0 rfl,a.cell 1 rfl,a.cell 2 rfl,a.cell 3 rfl,a.cell 4 rfl,a.cell 5 rfl⟩
 have S:Hid (Below W1.heap.size W1 W1.drew):=⟨rfl,rfl,rfl,Nat.le_refl _,fun _ _=>rfl⟩
 obtain ⟨u,H⟩:∃ u,Zcu (.mk k x n s ks ts) Zgp=u:=⟨_,rfl⟩
 rw [H] at E
 have HU:=Zb H
 clear H
 go_region_with (first | (refine (D.out _ S.out).mono ?_;rintro e w2 ⟨rfl,f,d0,d1,d2,d3,d4,d5⟩) | (refine (E.out _ (by first | exact S.out | assumption)).mono ?_;rintro e w3 ⟨rfl,P⟩))
 all_goals
  go_wp2_with fail
  go_ret
  exact ⟨by rw [HU.out];rfl,P⟩
end
