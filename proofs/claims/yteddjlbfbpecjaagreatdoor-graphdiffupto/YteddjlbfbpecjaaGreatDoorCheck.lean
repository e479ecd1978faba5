import Derived.Test.YteddjlbfbpecjaaGreatDoorJoin11
namespace Go.Proofs.YteddjlbfbpecjaaGreatDoor
open Go.RowKit Go.Shelf
set_option linter.all false
attribute [local go_sem] Oper.semAt_some
theorem Zum {F:Fence} {n:Nat} {P:Program} {f:FuncId} {args:Array Value} {w:World} {R:Ending->World->Prop} (L:F=Fence.wide) (h:Calls P f args w R):CallsIn F n P f args w R:=by
 rw [L];exact callsIn_wide.2 h
def checkN (T:Zi):Int:=if (T.pre 1).all (fun x=>Zw x.2)=true then (if Zcx 0 (T.pre 1)=true then 3 else 0) else 110
theorem Zo5 (v:Value) (T:Zi) (w:World) (hv:Zaw w.heap.size w v T) (hh:T.height<100000000) (E:Jb (T.pre 1)<4611686018427387904) :
  Calls Tryz.prog 207 #[v] w fun e w'=>Below w.heap.size w w'/\((Zcx 0 (T.pre 1)=false/\∃ x,e=.returned x)\/(Zcx 0 (T.pre 1)=true/\e=.panicked [{ v:=.iface 28 (.int .i64 3),recovered:=false }])):=by
 refine CallsIn.calls (F:=Fence.list [207,204,236,237] none) (n:=0) ?_ ?_
 ·refine Zvg rfl rfl (by simp [Fence.list]) (by simp [Fence.list]) (by simp [Fence.list]) (by simp [Fence.list]) ?_ 0 v T w hv hh E
  intro f hf
  simp only [Fence.list,List.mem_cons,List.not_mem_nil,or_false] at hf
  rcases hf with rfl | rfl | rfl | rfl
  ·exact ⟨_,Tryz.func207⟩
  ·exact ⟨_,Tryz.func204⟩
  ·exact ⟨_,Tryz.func236⟩
  ·exact ⟨_,Tryz.func237⟩
 ·exact Zn7 rfl
set_option maxRecDepth 100000 in
set_option maxHeartbeats 1000000 in
theorem Zm6 (v:Value) (T:Zi) (w:World) (hv:Zaw w.heap.size w v T) (hT:Zhx w) (hh:T.height<100000000) (E:Jb (T.pre 1)<4611686018427387904) :
  Calls Tryz.prog 168 #[v] w fun e w'=>e=.returned (.int .i64 (checkN T))/\Below w.heap.size w w':=by
 refine (callsIn_wide (n:=0)).1 ?_
 obtain ⟨F,L⟩:∃ F,F=Fence.wide:=⟨_,rfl⟩
 rw [<- L]
 have hd:F.depth=none:=by rw [L];rfl
 have I:F.round=none:=by rw [L];rfl
 have u:∀ f,F.fn f:=by rw [L];exact fun _=>trivial
 have HF:Hid (F=Fence.wide):=L
 clear L
 obtain ⟨k,b,n,s,ks,ts⟩:=T
 have b8:=hv
 simp only [Zaw] at hv
 obtain ⟨ka,kc,la,lc,rfl,⟨e5,e7,e3,e6,e2⟩,hk,ht⟩:=hv
 refine callsIn_of_wp_marks Tryz.func168 rfl (u _) ?_ I
 simp only [Tryz.ntmps168,List.size_toArray,List.length_cons,List.length_nil,Nat.reduceAdd,Nat.reduceSub,Array.replicate_succ,Array.replicate_zero,List.push_toArray,List.append_toArray,List.nil_append,List.cons_append]
 gi_wp2_with (gi_at_call 204;refine (Zkl (u _) I _ _ _ _ _ _ _ _ _ _ _ _).mono ?_;rintro e w' ⟨rfl,rfl⟩)
 refine Zl7 I hd (gf:=236) (lb:=#[.pointer (some ⟨w.heap.size+1+1,0,none⟩)]) rfl (u _) (enters_of Tryz.func236 (by kernel_rfl) rfl) ?_
 intro fn d9
 generalize c:Loop.mk _ _ _ _ _ _ _ _=rec
 simp only [World.size_alloc]
 generalize q:World.alloc _ (Obj.loop rec)=W0
 have b6:W0.heap.size=w.heap.size+5:=by rw [<- q];simp
 have b0:W0.heap[w.heap.size]?=some (.cells #[.int .i64 k,.bool b,.int .i64 n,.string s,.slice ka ks.length kc,.slice la ts.length lc] 60 (0,0)):=by rw [<- q];simp only [Jv,World.size_alloc];repeat (first | rw [if_pos trivial] | rw [if_pos (by omega)] | rw [if_neg (by omega)])
 have b1:W0.heap[w.heap.size+1]?=some (.cells #[.int .i64 0] 28 (0,0)):=by rw [<- q];simp only [Jv,World.size_alloc];repeat (first | rw [if_pos trivial] | rw [if_pos (by omega)] | rw [if_neg (by omega)])
 have K:W0.heap[w.heap.size+2]?=some (.cells #[.int .i64 k,.bool b,.int .i64 n,.string s,.slice ka ks.length kc,.slice la ts.length lc] 60 (0,0)):=by rw [<- q];simp only [Jv,World.size_alloc];repeat (first | rw [if_pos trivial] | rw [if_pos (by omega)] | rw [if_neg (by omega)])
 have b3:W0.heap[w.heap.size+3]?=some (.deferred (some [])):=by rw [<- q];simp only [Jv,World.size_alloc];repeat (first | rw [if_pos trivial] | rw [if_pos (by omega)] | rw [if_neg (by omega)])
 have b4:W0.heap[w.heap.size+4]?=some (.loop rec):=by rw [<- q];simp only [Jv,World.size_alloc];repeat (first | rw [if_pos trivial] | rw [if_pos (by omega)] | rw [if_neg (by omega)])
 have V:Below w.heap.size w W0:=by
  rw [<- q];exact (((((Below.refl _ w).alloc (Nat.le_refl _) _).alloc (by simp) _).alloc (by simp;omega) _).alloc (by simp;omega) _).alloc (by simp;omega) _
 clear q
 have R:Zrg F (w.heap.size+4) w.heap.size (w.heap.size+5) w ((Zi.mk k b n s ks ts).pre 1)
   (fun pre W=>W.heap[w.heap.size+4]?=some (.loop rec)/\W.heap[w.heap.size+3]?=some (.deferred (some []))/\W.heap[w.heap.size+1]?=some (.cells #[.int .i64 0] 28 (0,0)) /\
    W.heap[w.heap.size]?=some (.cells #[.int .i64 k,.bool b,.int .i64 n,.string s,.slice ka ks.length kc,.slice la ts.length lc] 60 (0,0)) /\
    Below w.heap.size w W/\w.heap.size+5<=W.heap.size/\pre.all (fun x=>Zw x.2)=true)
   (fun W=>W.heap[w.heap.size+4]?=some (.loop (Zk0 rec .ret))/\W.heap[w.heap.size+3]?=some (.deferred (some []))/\W.heap[w.heap.size+1]?=some (.cells #[.int .i64 110] 28 (0,0)) /\
    Below w.heap.size w W/\w.heap.size+5<=W.heap.size/\((Zi.mk k b n s ks ts).pre 1).all (fun x=>Zw x.2)=false)
   (fun _ _=>False):=by
  refine ⟨?_,?_,?_⟩
  ·rintro pre W ⟨_,_,_,_,B,N,_⟩
   exact ⟨B,by omega,N⟩
  ·rintro pre W W' ⟨h1,h2,h3,y,B,N,A⟩ E
   exact ⟨(E.block _ (by omega)).trans h1,(E.block _ (by omega)).trans h2,(E.block _ (by omega)).trans h3,(E.block _ (by omega)).trans y,B.trans (E.mono (by omega)),by have:=E.size;omega,A⟩
  ·rintro m' pre d ⟨k',b',n',s',G,us⟩ v W ⟨h1,h2,h3,y,B,N,A⟩ M c4
   have Y:=M
   simp only [Zaw] at M
   obtain ⟨c6,a9,b5,c8,rfl,⟨g1,g2,g3,g4,g5⟩,e0,e8⟩:=M
   have ea:=congrArg Loop.assign c
   have eb:=congrArg Loop.body c
   have et:=congrArg Loop.tmps c
   have ep:=congrArg Loop.params c
   have es:=congrArg Loop.state c
   have ef:=congrArg Loop.fn c
   have d2:Zl6 rec=rec:=by rw [<- c];rfl
   dsimp only at ea eb et ep es ef
   clear c
   refine Zfp (u _) ea eb et ep h1 es.symm (by rw [<- ep];rfl) ?_
   clear ea eb et ep es
   gi_wp2_with fail
   refine ⟨(Below.heap_alloc _ _ _ (by omega)).trans h1,?_⟩
   generalize m:World.putObj _ _ _=W2
   have a1:W2.heap[w.heap.size+4]?=some (.loop (Zej rec)):=by rw [<- m];refine World.putObj_heap_same ?_;simp;omega
   have a2:Boxed W2 (w.heap.size+1) 28 (.int .i64 0):=by rw [<- m];show _=_;rw [World.putObj_heap_other (by omega),Below.heap_alloc _ _ _ (by omega)];exact h3
   have a0:W2.heap[w.heap.size]?=some (.cells #[.int .i64 k,.bool b,.int .i64 n,.string s,.slice ka ks.length kc,.slice la ts.length lc] 60 (0,0)):=by rw [<- m,World.putObj_heap_other (by omega),Below.heap_alloc _ _ _ (by omega)];exact y
   have a3:W2.heap[w.heap.size+3]?=some (.deferred (some [])):=by rw [<- m,World.putObj_heap_other (by omega),Below.heap_alloc _ _ _ (by omega)];exact h2
   have a4:W2.heap[W.heap.size]?=some (.cells #[.int .i64 k',.bool b',.int .i64 n',.string s',.slice c6 G.length a9,.slice b5 us.length c8] 60 (0,0)):=by
    rw [<- m];exact (World.putObj_heap_other (by omega)).trans (World.alloc_heap_new _ _)
   have a5:Below w.heap.size w W2:=by rw [<- m];exact (But.putObj _ _).below ((B.alloc (by omega) _)) (by omega)
   have a6:W2.heap.size=W.heap.size+1:=by rw [<- m];simp
   have a7:Zcp (w.heap.size+5) W W2:=⟨by omega,fun i hi hl=>by rw [<- m];exact (World.putObj_heap_other (by omega)).trans (Below.heap_alloc _ _ _ hl)⟩
   clear m h1 h2 h3 y
   have x0:W2.cell? ⟨W.heap.size,0,none⟩=some (.int .i64 k'):=by unfold World.cell?;simp only [a4];rfl
   have x1:W2.cell? ⟨W.heap.size,1,none⟩=some (.bool b'):=by unfold World.cell?;simp only [a4];rfl
   have x2:W2.cell? ⟨W.heap.size,2,none⟩=some (.int .i64 n'):=by unfold World.cell?;simp only [a4];rfl
   have x3:W2.cell? ⟨W.heap.size,3,none⟩=some (.string s'):=by unfold World.cell?;simp only [a4];rfl
   have x4:W2.cell? ⟨W.heap.size,4,none⟩=some (.slice c6 G.length a9):=by unfold World.cell?;simp only [a4];rfl
   have x5:W2.cell? ⟨W.heap.size,5,none⟩=some (.slice b5 us.length c8):=by unfold World.cell?;simp only [a4];rfl
   have b7:=Zt2 w.heap.size _ _ W2 (by have:=a5.size;omega) (Y.below a5) (hT.below a5)
   gi_wp2_with fail
   refine (CallsIn.inRound _ (Zum HF.out b7)).mono ?_
   rintro e H ⟨rfl,t⟩
   have c1:H.heap[w.heap.size+4]?=some (.loop (Zej rec)):=(t.block _ (by omega)).trans a1
   have c2:Boxed H (w.heap.size+1) 28 (.int .i64 0):=(t.block _ (by omega)).trans a2
   have c3:H.heap[w.heap.size+3]?=some (.deferred (some [])):=(t.block _ (by omega)).trans a3
   have c0:H.heap[w.heap.size]?=some (.cells #[.int .i64 k,.bool b,.int .i64 n,.string s,.slice ka ks.length kc,.slice la ts.length lc] 60 (0,0)):=(t.block _ (by omega)).trans a0
   have c5:Below w.heap.size w H:=a5.trans (t.mono (by omega))
   have c7:Zcp (w.heap.size+5) W H:=a7.trans (Zcp.of_below t (Nat.le_refl _))
   have e1:=t.size
   have cb:=c2.cell
   have fb:=c2.frozen
   clear b7 t a0 a1 a2 a3 a4 a5 a7 x0 x1 x2 x3 x4 x5
   cases hsh:Zw (.mk k' b' n' s' G us) with
   | true =>
    have HJ:Hid ((pre++[(d,Zi.mk k' b' n' s' G us)]).all (fun x=>Zw x.2)=true):=by show _=_;rw [List.all_append,A];simp [hsh]
    clear hsh A
    gi_wp2_with fail
    refine ⟨c1,.inl ⟨rfl,⟨?_,?_,?_,?_,?_,?_,HJ.out⟩,?_⟩⟩
    ·rw [d2];exact World.putObj_heap_same (by omega)
    ·rw [World.putObj_heap_other (by omega)];exact c3
    ·rw [World.putObj_heap_other (by omega)];exact c2
    ·rw [World.putObj_heap_other (by omega)];exact c0
    ·exact (But.putObj _ _).below c5 (by omega)
    ·rw [World.putObj_size];omega
    ·refine c7.trans ⟨by rw [World.putObj_size];omega,fun i hi hl=>?_⟩
     rw [World.putObj_heap_other (by omega)]
   | false =>
    have HJ:Hid (((Zi.mk k b n s ks ts).pre 1).all (fun x=>Zw x.2)=false):=by
     obtain ⟨r,hr⟩:=c4
     show _=_
     rw [<- hr,List.all_append,List.all_append];simp [hsh]
    clear hsh A
    gi_wp2_with fail
    have e4:(H.setCell ⟨w.heap.size+1,0,none⟩ (.int .i64 110)).heap[w.heap.size+4]?=some (.loop (Zej rec)):=(Below.heap_setCell _ _ _ _ (by show w.heap.size+4≠w.heap.size+1;omega)).trans c1
    have d8:(H.setCell ⟨w.heap.size+1,0,none⟩ (.int .i64 110)).heap.size=H.heap.size:=by simp [World.setCell]
    refine ⟨e4,.inr (.inl ⟨rfl,?_,?_,?_,?_,?_,HJ.out⟩)⟩
    ·exact World.putObj_heap_same (by omega)
    ·rw [World.putObj_heap_other (by omega)];exact (Below.heap_setCell _ _ _ _ (by show w.heap.size+3≠w.heap.size+1;omega)).trans c3
    ·rw [World.putObj_heap_other (by omega)];exact c2.set _
    ·exact (But.putObj _ _).below (c5.setCell (p:=⟨w.heap.size+1,0,none⟩) (by show _<=w.heap.size+1;omega) _) (by omega)
    ·rw [World.putObj_size];omega
 have j:∀ (i:Nat) (v:Value),(#[Value.int .i64 k,.bool b,.int .i64 n,.string s,.slice ka ks.length kc,.slice la ts.length lc]:Array Value)[i]?=some v->∀ (W:World) (bx:Nat),W.heap[bx]?=some (.cells #[.int .i64 k,.bool b,.int .i64 n,.string s,.slice ka ks.length kc,.slice la ts.length lc] 60 (0,0))->W.cell? ⟨bx,i,none⟩=some v:=by
  intro i v hi W bx d7;unfold World.cell?;simp only [d7];simpa using hi
 refine (Ziz hd (u _) (u _) I R _ (w.heap.size+1+1) W0 b8 ⟨b4,b3,b1,b0,V,by omega,rfl⟩ (by simp only [Zi.height] at hh;omega)
  (j 0 _ rfl _ _ K) (j 1 _ rfl _ _ K) (j 2 _ rfl _ _ K) (j 3 _ rfl _ _ K) (j 4 _ rfl _ _ K) (j 5 _ rfl _ _ K)).mono ?_
 rintro e W' (⟨⟨x,rfl⟩,⟨h1,h2,h3,y,B,N,A⟩ | ⟨h1,h2,h3,B,N,A⟩⟩ | ⟨ch,_,hx⟩)
 ·have hp:rec.pending=none:=by rw [<- c]
  have b9:rec.state≠.busy:=by rw [<- c];simp
  clear c R b0 b1 K b3 b4 V b6
  refine ⟨rec,h1,b9,?_⟩
  simp only [hp]
  generalize l:World.putObj _ _ _=W4
  have d1:Boxed W4 (w.heap.size+1) 28 (.int .i64 0):=by rw [<- l];show _=_;rw [World.putObj_heap_other (by omega)];exact h3
  have d0:W4.heap[w.heap.size]?=some (.cells #[.int .i64 k,.bool b,.int .i64 n,.string s,.slice ka ks.length kc,.slice la ts.length lc] 60 (0,0)):=by rw [<- l,World.putObj_heap_other (by omega)];exact y
  have d3:W4.heap[w.heap.size+3]?=some (.deferred (some [])):=by rw [<- l,World.putObj_heap_other (by omega)];exact h2
  have d4:Below w.heap.size w W4:=by rw [<- l];exact (But.putObj _ _).below B (by omega)
  have d5:w.heap.size+5<=W4.heap.size:=by rw [<- l,World.putObj_size];exact N
  clear l h1 h2 h3 y B N b9 hp
  have x0:=j 0 _ rfl _ _ d0
  have x1:=j 1 _ rfl _ _ d0
  have x2:=j 2 _ rfl _ _ d0
  have x3:=j 3 _ rfl _ _ d0
  have x4:=j 4 _ rfl _ _ d0
  have x5:=j 5 _ rfl _ _ d0
  clear j
  have X:=Zo5 _ _ W4 ((b8.below d4).mono (by omega)) hh E
  gi_wp2_with fail
  refine (Zum HF.out X).mono ?_
  clear X x0 x1 x2 x3 x4 x5 d0
  rintro e z ⟨o,⟨a8,x,rfl⟩ | ⟨d6,rfl⟩⟩
  ·have U:Boxed z (w.heap.size+1) 28 (.int .i64 0):=(o.block _ (by omega)).trans d1
   have f3:z.heap[w.heap.size+3]?=some (.deferred (some [])):=(o.block _ (by omega)).trans d3
   have f4:Below w.heap.size w z:=d4.trans (o.mono (by omega))
   have f5:=o.size
   have cb:=U.cell
   have fb:=U.frozen
   have HN:Hid (checkN (.mk k b n s ks ts)=0):=by show _=_;unfold checkN;rw [if_pos A,if_neg (by rw [a8];simp)]
   clear d1 d3 d4 o a8 A
   gi_wp2_with fail
   have Q:(z.setCell ⟨w.heap.size+1,0,none⟩ (.int .i64 0)).heap[w.heap.size+3]?=some (.deferred (some [])):=(Below.heap_setCell _ _ _ _ (by show w.heap.size+3≠w.heap.size+1;omega)).trans f3
   have S:Below w.heap.size w (z.setCell ⟨w.heap.size+1,0,none⟩ (.int .i64 0)):=f4.setCell (p:=⟨w.heap.size+1,0,none⟩) (by show _<=w.heap.size+1;omega) _
   have O:Boxed (z.setCell ⟨w.heap.size+1,0,none⟩ (.int .i64 0)) (w.heap.size+1) 28 (.int .i64 0):=U.set _
   show LeavesInM _ _ _ _ _ _ [_,_] _ _
   refine ⟨by simp,.inr ⟨Ze0 hd _,_,_,206,#[.pointer (some ⟨w.heap.size+1,0,none⟩)],rfl,by simp [invoke,go_sem],fun g _=>u g,?_⟩⟩
   rw [HF.out]
   refine (Zta _ _ _).mono ?_
   rintro e u' c9 ⟨rfl,rfl,rfl⟩
   show LeavesInM _ _ _ _ _ _ [_] .returning _
   refine ⟨by simp,.inl ⟨_,_,rfl,run_takeDeferred Q,?_⟩⟩
   have C:Boxed ((z.setCell ⟨w.heap.size+1,0,none⟩ (.int .i64 0)).putObj (w.heap.size+3) (.deferred none)) (w.heap.size+1) 28 (.int .i64 0):=(World.putObj_heap_other (by omega)).trans O
   refine ⟨.int .i64 0,?_,by rw [HN.out],(But.putObj _ _).below S (by omega)⟩
   have D:=C.cell
   simp [results,Tryz.results168,go_sem,D]
  ·have U:Boxed z (w.heap.size+1) 28 (.int .i64 0):=(o.block _ (by omega)).trans d1
   have f3:z.heap[w.heap.size+3]?=some (.deferred (some [])):=(o.block _ (by omega)).trans d3
   have f4:Below w.heap.size w z:=d4.trans (o.mono (by omega))
   have f5:=o.size
   have HN:Hid (checkN (.mk k b n s ks ts)=3):=by show _=_;unfold checkN;rw [if_pos A,if_pos d6]
   have Q:(z.setCell ⟨w.heap.size+1,0,none⟩ (.int .i64 3)).heap[w.heap.size+3]?=some (.deferred (some [])):=(Below.heap_setCell _ _ _ _ (by show w.heap.size+3≠w.heap.size+1;omega)).trans f3
   have S:Below w.heap.size w (z.setCell ⟨w.heap.size+1,0,none⟩ (.int .i64 3)):=f4.setCell (p:=⟨w.heap.size+1,0,none⟩) (by show _<=w.heap.size+1;omega) _
   have O:Boxed (z.setCell ⟨w.heap.size+1,0,none⟩ (.int .i64 3)) (w.heap.size+1) 28 (.int .i64 3):=U.set _
   show LeavesInM _ _ _ _ _ _ [_,_] _ _
   refine ⟨by simp,.inr ⟨Ze0 hd _,_,_,206,#[.pointer (some ⟨w.heap.size+1,0,none⟩)],rfl,by simp [invoke,go_sem],fun g _=>u g,?_⟩⟩
   rw [HF.out]
   refine (Zs9 _ _ 0 _ U.cell U.frozen).mono ?_
   rintro e u' c9 ⟨rfl,rfl,rfl⟩
   show LeavesInM _ _ _ _ _ _ [_] .returning _
   refine ⟨by simp,.inl ⟨_,_,rfl,run_takeDeferred Q,?_⟩⟩
   have C:Boxed ((z.setCell ⟨w.heap.size+1,0,none⟩ (.int .i64 3)).putObj (w.heap.size+3) (.deferred none)) (w.heap.size+1) 28 (.int .i64 3):=(World.putObj_heap_other (by omega)).trans O
   refine ⟨.int .i64 3,?_,by rw [HN.out],(But.putObj _ _).below S (by omega)⟩
   have D:=C.cell
   simp [results,Tryz.results168,go_sem,D]
 ·have HN:Hid (checkN (.mk k b n s ks ts)=110):=by show _=_;unfold checkN;rw [if_neg (by rw [A];simp)]
  refine ⟨Zk0 rec .ret,h1,by simp [Zk0],?_⟩
  simp only [Zk0]
  clear c R b0 b1 K b3 b4 V b6 j
  generalize l:World.putObj _ _ _=W4
  have d1:Boxed W4 (w.heap.size+1) 28 (.int .i64 110):=by rw [<- l];show _=_;rw [World.putObj_heap_other (by omega)];exact h3
  have d3:W4.heap[w.heap.size+3]?=some (.deferred (some [])):=by rw [<- l,World.putObj_heap_other (by omega)];exact h2
  have d4:Below w.heap.size w W4:=by rw [<- l];exact (But.putObj _ _).below B (by omega)
  clear l h1 h2 h3 B A
  gi_wp2_with fail
  show LeavesInM _ _ _ _ _ _ [_] .returning _
  refine ⟨by simp,.inl ⟨_,_,rfl,run_takeDeferred d3,?_⟩⟩
  have C:Boxed (W4.putObj (w.heap.size+3) (.deferred none)) (w.heap.size+1) 28 (.int .i64 110):=(World.putObj_heap_other (by omega)).trans d1
  refine ⟨.int .i64 110,?_,by rw [HN.out],(But.putObj _ _).below d4 (by omega)⟩
  have D:=C.cell
  simp [results,Tryz.results168,go_sem,D]
 ·exact hx.elim
