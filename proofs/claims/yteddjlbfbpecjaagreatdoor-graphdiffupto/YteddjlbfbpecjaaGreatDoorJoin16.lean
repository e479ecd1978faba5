import Derived.Test.YteddjlbfbpecjaaGreatDoorJoin14
import Derived.Test.YteddjlbfbpecjaaGreatDoorFcopy
namespace Go.Proofs.YteddjlbfbpecjaaGreatDoor
set_option maxRecDepth 100000
set_option linter.all false
section
open Go.RowKit Go.Shelf
attribute [local go_sem] Oper.semAt_some
theorem Za4.block {R B:Nat} {w w':World} {v:Value} {T:Zi} (h:Za4 R B w v T) (hk:∀ b,R<=b->b<B->w'.heap[b]?=w.heap[b]?):Za4 R B w' v T :=
 h.keep fun b o h1 h2=>⟨World.cell?_of_block (hk b h1 h2),by simp [World.frozen?,hk b h1 h2]⟩
set_option maxRecDepth 100000 in
set_option maxHeartbeats 4000000 in
theorem Zhi (key:ByteArray) (T:Zi) (c0 c1 c2 c3 c4 c5:Value) (B:Nat) (w:World) (hB:B<=w.heap.size) (K:Zaw B w (.agg #[c0,c1,c2,c3,c4,c5]) T) (ht:T.total<=2000000) :
  Calls Tryz.prog 101 #[.agg #[.string key,c0,c1,c2,c3,c4,c5]] w fun e w'=>∃ d0 d1 d2 d3 d4 d5,e=.returned (.agg #[.string key,d0,d1,d2,d3,d4,d5])/\Za4 w.heap.size w'.heap.size w' (.agg #[d0,d1,d2,d3,d4,d5]) T/\Below w.heap.size w w':=by
 obtain ⟨k,x,n,s,ks,ts⟩:=T
 have HV:=Zb K
 simp only [Zaw] at K
 obtain ⟨ka,kc,la,lc,D,_⟩:=K
 obtain ⟨rfl,rfl,rfl,rfl,rfl,rfl⟩:c0=.int .i64 k/\c1=.bool x/\c2=.int .i64 n/\c3=.string s/\c4=.slice ka ks.length kc/\c5=.slice la ts.length lc:=by
  simpa using D
 clear D
 have HT:=Zb ht
 clear ht
 go_enter Tryz.func101,Tryz.ntmps101
 go_upto_region 1 with fail
 generalize m:World.alloc _ _=W1
 have r:Hid (Below w.heap.size w W1):=by rw [<- m];exact ((Below.refl _ _).alloc (Nat.le_refl _) _).alloc (by simp) _
 have d:Hid (Rec W1 w.heap.size #[.string key,.int .i64 k,.bool x,.int .i64 n,.string s,.slice ka ks.length kc,.slice la ts.length lc] 79):=by
  rw [<- m];exact (Zl _ _ _).alloc _
 have C:Hid (Rec W1 (w.heap.size+1) #[.string ⟨#[]⟩,.int .i64 0,.bool false,.int .i64 0,.string ⟨#[]⟩,.slice none 0 0,.slice none 0 0] 79):=by
  have h:=Zl (w.alloc (.cells #[.string key,.int .i64 k,.bool x,.int .i64 n,.string s,.slice ka ks.length kc,.slice la ts.length lc] 79)) #[.string ⟨#[]⟩,.int .i64 0,.bool false,.int .i64 0,.string ⟨#[]⟩,.slice none 0 0,.slice none 0 0] 79
  rw [World.size_alloc,m] at h
  exact h
 have a1:W1.heap.size=w.heap.size+2:=by rw [<- m];simp
 clear m
 have HC:=Zb (Zyk (.mk k x n s ks ts) B _ W1 (Nat.le_trans hB r.out.size) (HV.out.below (r.out.mono hB)) HT.out)
 have r1:=d.out.cell 1 rfl
 have r2:=d.out.cell 2 rfl
 have G:=d.out.cell 3 rfl
 have E:=d.out.cell 4 rfl
 have I:=d.out.cell 5 rfl
 have F:=d.out.cell 6 rfl
 go_wp2_with fail
 refine HC.out.mono ?_
 rintro e H ⟨v',rfl,Q,l⟩
 have HL:=Zb Q
 simp only [Za4] at Q
 obtain ⟨t,q,u,y,rfl,_⟩:=Q
 have S:=Zb (Za r.out l)
 have c:=Zb (d.out.below l d.out.lt)
 have P:=Zb (C.out.below l C.out.lt)
 have a0:w.heap.size+2<=H.heap.size:=by have:=l.size;omega
 clear l r1 r2 G E I F HC d C
 have r1:=c.out.cell 1 rfl
 have r2:=c.out.cell 2 rfl
 have G:=c.out.cell 3 rfl
 have E:=c.out.cell 4 rfl
 have I:=c.out.cell 5 rfl
 have F:=c.out.cell 6 rfl
 have X:=c.out.z 1
 have z2:=c.out.z 2
 have z3:=c.out.z 3
 have Y:=c.out.z 4
 have z5:=c.out.z 5
 have z6:=c.out.z 6
 go_upto_region 2 with fail
 generalize i:World.setCell _ _ _=W3
 have f:Hid (Rec W3 w.heap.size #[.string key,.int .i64 k,.bool x,.int .i64 n,.string s,.slice t ks.length q,.slice u ts.length y] 79):=by
  rw [<- i]
  exact ((((((c.out.set 1 _).set 2 _).set 3 _).set 4 _).set 5 _).set 6 _)
 have a:Hid (Rec W3 (w.heap.size+1) #[.string ⟨#[]⟩,.int .i64 0,.bool false,.int .i64 0,.string ⟨#[]⟩,.slice none 0 0,.slice none 0 0] 79):=by
  rw [<- i]
  exact ((((((P.out.other (by omega)).other (by omega)).other (by omega)).other (by omega)).other (by omega)).other (by omega))
 have V:Hid (Below w.heap.size w W3):=by
  rw [<- i]
  exact ((((((S.out.setCell (p:=⟨w.heap.size,1,none⟩) (Nat.le_refl _) _).setCell (p:=⟨w.heap.size,2,none⟩) (Nat.le_refl _) _).setCell (p:=⟨w.heap.size,3,none⟩) (Nat.le_refl _) _).setCell (p:=⟨w.heap.size,4,none⟩) (Nat.le_refl _) _).setCell (p:=⟨w.heap.size,5,none⟩) (Nat.le_refl _) _).setCell (p:=⟨w.heap.size,6,none⟩) (Nat.le_refl _) _)
 have N:Hid (∀ b,w.heap.size≠b->W3.heap[b]?=H.heap[b]?):=fun b M=>by
  rw [<- i]
  repeat rw [Below.heap_setCell _ _ _ _ (Ne.symm M)]
 have U:W3.heap.size=H.heap.size:=by rw [<- i];simp
 clear i r1 r2 G E I F X z2 z3 Y z5 z6
 have r0:=f.out.cell 0 rfl
 have r1:=f.out.cell 1 rfl
 have r2:=f.out.cell 2 rfl
 have G:=f.out.cell 3 rfl
 have E:=f.out.cell 4 rfl
 have I:=f.out.cell 5 rfl
 have F:=f.out.cell 6 rfl
 have q0:=a.out.cell 0 rfl
 have z0:=a.out.z 0
 have q1:=a.out.cell 1 rfl
 have X:=a.out.z 1
 have q2:=a.out.cell 2 rfl
 have z2:=a.out.z 2
 have q3:=a.out.cell 3 rfl
 have z3:=a.out.z 3
 have q4:=a.out.cell 4 rfl
 have Y:=a.out.z 4
 have q5:=a.out.cell 5 rfl
 have z5:=a.out.z 5
 have q6:=a.out.cell 6 rfl
 have z6:=a.out.z 6
 go_wp2_with fail
 generalize j:World.setCell _ _ _=W4
 have g:Hid (Rec W4 (w.heap.size+1) #[.string key,.int .i64 k,.bool x,.int .i64 n,.string s,.slice t ks.length q,.slice u ts.length y] 79):=by
  rw [<- j]
  exact (((((((a.out.set 0 _).set 1 _).set 2 _).set 3 _).set 4 _).set 5 _).set 6 _)
 have W:Hid (Below w.heap.size w W4):=by
  rw [<- j]
  exact (((((((V.out.setCell (p:=⟨w.heap.size+1,0,none⟩) (Nat.le_succ _) _).setCell (p:=⟨w.heap.size+1,1,none⟩) (Nat.le_succ _) _).setCell (p:=⟨w.heap.size+1,2,none⟩) (Nat.le_succ _) _).setCell (p:=⟨w.heap.size+1,3,none⟩) (Nat.le_succ _) _).setCell (p:=⟨w.heap.size+1,4,none⟩) (Nat.le_succ _) _).setCell (p:=⟨w.heap.size+1,5,none⟩) (Nat.le_succ _) _).setCell (p:=⟨w.heap.size+1,6,none⟩) (Nat.le_succ _) _)
 have O:Hid (∀ b,w.heap.size+1≠b->W4.heap[b]?=W3.heap[b]?):=fun b M=>by
  rw [<- j]
  repeat rw [Below.heap_setCell _ _ _ _ (Ne.symm M)]
 have L:W4.heap.size=H.heap.size:=by rw [<- j];simp [U]
 clear j
 have d0:=g.out.cell 0 rfl
 have d1:=g.out.cell 1 rfl
 have d2:=g.out.cell 2 rfl
 have d3:=g.out.cell 3 rfl
 have d4:=g.out.cell 4 rfl
 have d5:=g.out.cell 5 rfl
 have d6:=g.out.cell 6 rfl
 refine bodyPost_ret (v:=.agg #[.string key,.int .i64 k,.bool x,.int .i64 n,.string s,.slice t ks.length q,.slice u ts.length y]) (by simp [results,Tryz.results101,go_sem,d0,d1,d2,d3,d4,d5,d6]) rfl ⟨_,_,_,_,_,_,rfl,?_,W.out⟩
 rw [L]
 refine Za4.mono (by omega) (Nat.le_refl _) (HL.out.block fun b h1 h2=>?_)
 rw [O.out b (by omega),N.out b (by omega)]
end
section
open Go.RowKit Go.Shelf
attribute [local go_sem] Oper.semAt_some
theorem Zi9 (f:Value) (n c:Nat) (w:World):Calls Tryz.prog 100 #[.slice none n c,f] w fun e w'=>e=.returned (.slice none 0 0)/\w'=w:=by
 have hq:(binOp .eql 45 (.slice none n c) (.slice none 0 0)).run Tryz.prog w=.ok (.bool true) w:=by
  have:=Lib.run_eql_slice_nil (P:=Tryz.prog) w 45 79 none n c 0 0 Tryz.underlying45
  simpa using this
 go_enter Tryz.func100,Tryz.ntmps100
 go_wp2_with fail
 go_ret
 exact ⟨rfl,rfl⟩
theorem Tryz.info79  : (Tryz.prog.info? 79).map (fun i=>(i.zero,i.size,i.bytes))=some (some (.agg #[.string ⟨#[]⟩,.int .i64 0,.bool false,.int .i64 0,.string ⟨#[]⟩,.slice none 0 0,.slice none 0 0]),7,104):=by kernel_rfl
set_option maxHeartbeats 4000000 in
theorem Zpr (key:ByteArray) (T:Zi) (j off F B:Nat) (w:World) (hB:B<=w.heap.size) (a8:j<B) (b9:1<=F) (b6:F<=9223372036854775807) (hp:Zda B w j off (key,T)) (ht:T.total<=2000000) :
  Calls Tryz.prog 100 #[.slice (some ⟨j,off,none⟩) 1 F,.func (.func 101) #[] #[]] w fun e w'=>∃ d0 d1 d2 d3 d4 d5,e=.returned (.slice (some ⟨w.heap.size,0,none⟩) 1 1)/\Rec w' w.heap.size #[.string key,d0,d1,d2,d3,d4,d5] 79/\Za4 (w.heap.size+1) w'.heap.size w' (.agg #[d0,d1,d2,d3,d4,d5]) T/\Below w.heap.size w w':=by
 obtain ⟨O,b8,v0,v1,v2,v3,v4,v5,⟨c0,c1,c2,c3,c4,c5⟩,M⟩:=hp
 simp only at O M
 obtain ⟨i0,hi,L,A,G⟩:=info_parts Tryz.info79
 have U:∀ W:World,(Instr.makeSlice 45 (.int .i64 1) (.int .i64 1)).run Tryz.prog W=.ok (.slice (some ⟨W.heap.size,0,none⟩) 1 1) (W.alloc (.cells #[.string ⟨#[]⟩,.int .i64 0,.bool false,.int .i64 0,.string ⟨#[]⟩,.slice none 0 0,.slice none 0 0] 79)):=fun W=>by
  have:=run_makeSlice (P:=Tryz.prog) W 45 79 i0 _ Tryz.underlying45 hi L .i64 .i64 1 1 (by omega) (by omega) (by rw [A];omega) (by rw [G];omega) (by omega)
  have N:madeCells #[.string ⟨#[]⟩,.int .i64 0,.bool false,.int .i64 0,.string ⟨#[]⟩,.slice none 0 0,.slice none 0 0] 7=#[.string ⟨#[]⟩,.int .i64 0,.bool false,.int .i64 0,.string ⟨#[]⟩,.slice none 0 0,.slice none 0 0]:=by
   unfold madeCells
   rw [show Array.range 7=#[0,1,2,3,4,5,6] from by decide]
   simp
  simpa [A,Value.cells,N] using this
 have b0:∀ W:World,(binOp .eql 45 (.slice (some ⟨j,off,none⟩) 1 F) (.slice none 0 0)).run Tryz.prog W=.ok (.bool false) W:=fun W=>by
  have:=Lib.run_eql_slice_nil (P:=Tryz.prog) W 45 79 (some ⟨j,off,none⟩) 1 F 0 0 Tryz.underlying45
  simpa using this
 obtain ⟨k,x,n,s,ks,ts⟩:=T
 have HV:=Zb M
 simp only [Zaw] at M
 obtain ⟨ka,kc,la,lc,m,_⟩:=M
 obtain ⟨rfl,rfl,rfl,rfl,rfl,rfl⟩:v0=.int .i64 k/\v1=.bool x/\v2=.int .i64 n/\v3=.string s/\v4=.slice ka ks.length kc/\v5=.slice la ts.length lc:=by
  simpa using m
 have HT:=Zb ht
 clear m ht hi L A G
 go_enter Tryz.func100,Tryz.ntmps100
 go_upto_region 4 with fail
 generalize q:World.alloc _ _=W1
 have g:Hid (Below w.heap.size w W1):=by rw [<- q];exact (Below.refl _ _).alloc (Nat.le_refl _) _
 have X:Hid (Rec W1 w.heap.size #[.string ⟨#[]⟩,.int .i64 0,.bool false,.int .i64 0,.string ⟨#[]⟩,.slice none 0 0,.slice none 0 0] 79):=by rw [<- q];exact Zl _ _ _
 have R:Hid (W1.heap.size=w.heap.size+1):=by rw [<- q];show _=_;simp
 clear q U b0
 have d:j<w.heap.size:=Nat.lt_of_lt_of_le a8 hB
 have a3:=(g.out.cell (p:=⟨j,off,none⟩) d).trans O
 have a6:=(g.out.cell (p:=⟨j,off+1,none⟩) d).trans c0
 have b3:=(g.out.cell (p:=⟨j,off+2,none⟩) d).trans c1
 have S:=(g.out.cell (p:=⟨j,off+3,none⟩) d).trans c2
 have V:=(g.out.cell (p:=⟨j,off+4,none⟩) d).trans c3
 have b4:=(g.out.cell (p:=⟨j,off+5,none⟩) d).trans c4
 have a9:=(g.out.cell (p:=⟨j,off+6,none⟩) d).trans c5
 clear O c0 c1 c2 c3 c4 c5
 go_wp2_with fail
 go_loopw [15] (fun i wr=>(i=.int .i64 0/\wr=W1)\/(i=.int .i64 1/\Below w.heap.size w wr/\∃ d0 d1 d2 d3 d4 d5,Rec wr w.heap.size #[.string key,d0,d1,d2,d3,d4,d5] 79/\Za4 (w.heap.size+1) wr.heap.size wr (.agg #[d0,d1,d2,d3,d4,d5]) (.mk k x n s ks ts))) (fun i _=>1 - (intOf i).toNat)
 case atStart=>exact .inl ⟨rfl,rfl⟩
 case round =>
  rcases hrel with ⟨rfl,hw⟩ | ⟨rfl,D,d0,d1,d2,d3,d4,d5,I,E⟩
  ·rw [hw]
   clear hw
   go_upto_region 7 with fail
   generalize o:World.alloc _ _=W2
   have K:Hid (Below W1.heap.size W1 W2):=by rw [<- o];exact (Below.refl _ _).alloc (Nat.le_refl _) _
   have h:Hid (Rec W2 W1.heap.size #[.string key,.int .i64 k,.bool x,.int .i64 n,.string s,.slice ka ks.length kc,.slice la ts.length lc] 79):=by rw [<- o];exact Zl _ _ _
   have H:Hid (Rec W2 w.heap.size #[.string ⟨#[]⟩,.int .i64 0,.bool false,.int .i64 0,.string ⟨#[]⟩,.slice none 0 0,.slice none 0 0] 79):=by rw [<- o];exact X.out.alloc _
   clear o a3 a6 b3 S V b4 a9
   have b7:W1.heap.size<W2.heap.size:=h.out.lt
   have HC:=Zb (Zhi key (.mk k x n s ks ts) _ _ _ _ _ _ B W2 (by have:=g.out.size;omega) (HV.out.below ((Za g.out K.out).mono hB)) HT.out)
   have r0:=h.out.cell 0 rfl
   have r1:=h.out.cell 1 rfl
   have r2:=h.out.cell 2 rfl
   have r3:=h.out.cell 3 rfl
   have r4:=h.out.cell 4 rfl
   have r5:=h.out.cell 5 rfl
   have r6:=h.out.cell 6 rfl
   go_wp2_with fail
   refine HC.out.mono ?_
   rintro e w3 ⟨d0,d1,d2,d3,d4,d5,rfl,v,u⟩
   have a2:=Zb v
   simp only [Za4] at v
   obtain ⟨t,r,y,C,m,_⟩:=v
   obtain ⟨rfl,rfl,rfl,rfl,rfl,rfl⟩:d0=.int .i64 k/\d1=.bool x/\d2=.int .i64 n/\d3=.string s/\d4=.slice t ks.length r/\d5=.slice y ts.length C:=by
    simpa using m
   have a:=Zb (H.out.below u H.out.lt)
   have b1:=Zb (Za (Za g.out K.out) u)
   clear u m r0 r1 r2 r3 r4 r5 r6 HC
   have q0:=a.out.cell 0 rfl
   have z0:=a.out.z 0
   have q1:=a.out.cell 1 rfl
   have z1:=a.out.z 1
   have q2:=a.out.cell 2 rfl
   have z2:=a.out.z 2
   have q3:=a.out.cell 3 rfl
   have z3:=a.out.z 3
   have q4:=a.out.cell 4 rfl
   have z4:=a.out.z 4
   have q5:=a.out.cell 5 rfl
   have z5:=a.out.z 5
   have q6:=a.out.cell 6 rfl
   have z6:=a.out.z 6
   go_upto_region 8 with fail
   generalize l:World.setCell _ _ _=W4
   have a1:Hid (Rec W4 w.heap.size #[.string key,.int .i64 k,.bool x,.int .i64 n,.string s,.slice t ks.length r,.slice y ts.length C] 79):=by
    rw [<- l]
    exact (((((((a.out.set 0 _).set 1 _).set 2 _).set 3 _).set 4 _).set 5 _).set 6 _)
   have b5:Hid (Below w.heap.size w W4):=by
    rw [<- l]
    exact (((((((b1.out.setCell (p:=⟨w.heap.size,0,none⟩) (Nat.le_refl _) _).setCell (p:=⟨w.heap.size,1,none⟩) (Nat.le_refl _) _).setCell (p:=⟨w.heap.size,2,none⟩) (Nat.le_refl _) _).setCell (p:=⟨w.heap.size,3,none⟩) (Nat.le_refl _) _).setCell (p:=⟨w.heap.size,4,none⟩) (Nat.le_refl _) _).setCell (p:=⟨w.heap.size,5,none⟩) (Nat.le_refl _) _).setCell (p:=⟨w.heap.size,6,none⟩) (Nat.le_refl _) _)
   have Y:Hid (∀ b,w.heap.size≠b->W4.heap[b]?=w3.heap[b]?):=fun b hb=>by
    rw [<- l]
    repeat rw [Below.heap_setCell _ _ _ _ (Ne.symm hb)]
   have Q:W4.heap.size=w3.heap.size:=by rw [<- l];simp
   clear l q0 q1 q2 q3 q4 q5 q6 z0 z1 z2 z3 z4 z5 z6
   have b2:Hid (Za4 (w.heap.size+1) W4.heap.size W4 (.agg #[.int .i64 k,.bool x,.int .i64 n,.string s,.slice t ks.length r,.slice y ts.length C]) (.mk k x n s ks ts)):=by
    show Za4 _ _ _ _ _
    rw [Q]
    have c6:=R.out
    exact Za4.mono (by omega) (Nat.le_refl _) (a2.out.block fun b h1 h2=>Y.out b (by omega))
   go_wp2_with fail
   go_roundw
   case rel=>exact .inr ⟨by go_num,b5.out,_,_,_,_,_,_,a1.out,b2.out⟩
   case measure=>simp [intOf]
  ·have a4:=Zb D
   have a5:=Zb I
   have a7:=Zb E
   clear D I E
   go_wp2_with fail
   go_ret
   exact ⟨d0,d1,d2,d3,d4,d5,rfl,a5.out,a7.out,a4.out⟩
end
section
open Go.RowKit Go.Shelf
attribute [local go_sem] Oper.semAt_some
theorem Tryz.info47  : (Tryz.prog.info? 47).map (fun i=>(i.zero,i.size,i.bytes))=some (some (.agg #[.int .i64 0,.slice none 0 0,.slice none 0 0]),3,56):=by kernel_rfl
end
section
open Go.RowKit Go.Shelf Go.WideShapes
noncomputable def Zsv  : Array Oper:=Zy Tryz.f52 1
def Jic  : List Sig:=[⟨8,.move (.tmp 0),153,none⟩,⟨9,.nilCheck (.tmp 8),0,none⟩,⟨10,.fieldAddr 71 (.tmp 9) 2,0,none⟩,⟨11,.load 2 (.tmp 10),2,none⟩,⟨12,.move (.tmp 0),153,none⟩,⟨13,.nilCheck (.tmp 12),0,none⟩,⟨14,.fieldAddr 71 (.tmp 13) 3,0,none⟩,⟨15,.load 2 (.tmp 14),2,none⟩,⟨16,.build 25 #[(2,.tmp 11),(3,.tmp 15)],25,none⟩,⟨3,.alloc 25,0,none⟩]
theorem Jeq  : (Jh Zsv).take Jic.length=Jic.map some:=by kernel_rfl
def Zm9 (i:Nat):List Nat:=nth [] [[],[0],[1],[2],[],[4],[5],[6],[3,7],[],[0,1,2,3,4,5,6,7,8,9]] i
def Zcf (p:GP) (nn nr:Int) (a:Nat):List (Value->World->Prop) :=
 [eqv (.pointer (some ⟨p.g,0,none⟩)),eqv (.pointer (some ⟨p.g,0,none⟩)),eqv (.pointer (some ⟨p.g,2,none⟩)),eqv (.int .i64 nn),eqv (.pointer (some ⟨p.g,0,none⟩)),eqv (.pointer (some ⟨p.g,0,none⟩)),eqv (.pointer (some ⟨p.g,3,none⟩)),eqv (.int .i64 nr),eqv (.agg #[.slice none 0 0,.slice none 0 0,.int .i64 nn,.int .i64 nr]),fun v w=>∃ X,v=.pointer (some ⟨X,0,none⟩)/\a<=X/\Rec w X #[.slice none 0 0,.slice none 0 0,.int .i64 0,.int .i64 0] 25]
structure Zlj (p:GP) (nn nr:Int) (a:Nat) (c:Act):Prop where
 t0:c.eval (.tmp 0)=.pointer (some ⟨p.g,0,none⟩)
structure Zhq (p:GP) (nn nr:Int) (a:Nat) (w:World):Prop where
 c2:w.cell? ⟨p.g,2,none⟩=some (.int .i64 nn)
 c3:w.cell? ⟨p.g,3,none⟩=some (.int .i64 nr)
 b0:a<=w.heap.size
theorem Jer (p:GP) (nn nr:Int) (a:Nat) (Q:Exit->Act->World->Prop) (c:Act) (w:World) (d:Zlj p nn nr a c) (e:Zhq p nn nr a w) (b:∀ q0 ∈ Zm9 9,Zg (Zcf p nn nr a) q0 (val Zsv c q0) w) :
  Zbp Tryz.prog Zsv Q (Zg (Zcf p nn nr a)) 9 c w:=by
 have r:Zsv[9]?=some (⟨some 3,.alloc 25,0, "graph.go:126",#[],none⟩:Oper):=by kernel_rfl
 have o:Region.wanted (⟨some 3,.alloc 25,0, "graph.go:126",#[],none⟩:Oper) (yielded Zsv c.tmps)=true:=Zz rfl
 have u:=evc c
 have y:=evf c
 refine Ze r o (v:=.pointer (some ⟨w.heap.size,0,none⟩)) (w':=w.alloc (.cells #[.slice none 0 0,.slice none 0 0,.int .i64 0,.int .i64 0] 25)) ?_ ⟨w.heap.size,rfl,e.b0,Zl _ _ _⟩ ((Below.refl _ _).alloc (Nat.le_refl _) _)
 generalize c.eval=ρ at *
 clear b d e o r
 go_simp
theorem Zuv (p:GP) (nn nr:Int) (a:Nat):∀ pr ∈ Zcf p nn nr a,Zct pr:=by
 unfold Zcf
 iterate 10 (first | refine List.forall_mem_cons.2 ⟨Zal _,?_⟩ | refine List.forall_mem_cons.2 ⟨fun v w w' ⟨X,h,t,q⟩ d=>⟨X,h,t,q.below d q.lt⟩,?_⟩)
 exact List.forall_mem_nil _
set_option maxHeartbeats 4000000 in
theorem Jes (p:GP) (nn nr:Int) (a:Nat) (Q:Exit->Act->World->Prop):∀ i,i<10->(fun i=>i ∉ ([9]:List Nat)->∀ c w,Zlj p nn nr a c->Zhq p nn nr a w->(∀ q0 ∈ Zm9 i,Zg (Zcf p nn nr a) q0 (val Zsv c q0) w)->Zbp Tryz.prog Zsv Q (Zg (Zcf p nn nr a)) i c w) i:=by
 iterate 10 (refine Zd ?_ (by
  intro s c w d e b
  first
  | exact absurd (by decide) s
  | (have hEq:=Za5 Jeq (by decide) b
     refine Zbb Jeq (by decide) rfl (fun _=>rfl) ?_
     obtain ⟨t0⟩:=d
     obtain ⟨c2,c3,b0⟩:=e
     have u:=evc c
     have y:=evf c
     dsimp only [Zm9,Jic,Zcf,nth,Zdj,Za2,eqv] at hEq |-
     refine .inl fun pos z=>?_
     clear b s
     dsimp only [Sig.oper]
     generalize c.eval=ρ at *
     go_simp
     done)))
 exact Zf
theorem Jet (p:GP) (nn nr:Int) (a:Nat) (Q:Exit->Act->World->Prop):∀ i,i<10->(fun i=>∀ c w,Zlj p nn nr a c->Zhq p nn nr a w->(∀ q0 ∈ Zm9 i,Zg (Zcf p nn nr a) q0 (val Zsv c q0) w)->Zbp Tryz.prog Zsv Q (Zg (Zcf p nn nr a)) i c w) i:=by
 intro i f
 by_cases h9:i=9
 ·subst h9;exact fun c w=>Jer p nn nr a Q c w
 exact Jes p nn nr a Q i f (by simp [*])
theorem Zuw (p:GP) (nn nr:Int) (a:Nat) (Q:Exit->Act->World->Prop) (base:Act) (j:World) (n:base.tmps.size=62) (d:Zlj p nn nr a base)
  (e:∀ w,Below j.heap.size j w->Zhq p nn nr a w) (x:∀ c w,Zaf Zsv base c->Below j.heap.size j w->c.eval (.tmp 16)=.agg #[.slice none 0 0,.slice none 0 0,.int .i64 nn,.int .i64 nr]->(fun v w=>∃ X,v=.pointer (some ⟨X,0,none⟩)/\a<=X/\Rec w X #[.slice none 0 0,.slice none 0 0,.int .i64 0,.int .i64 0] 25) (c.eval (.tmp 3)) w->∃ w',(execOp c.eval (⟨none,.store 25 (.tmp 3) (.tmp 16),0, "graph.go:126",#[⟨9,.data⟩,⟨8,.data⟩,⟨0,.phase⟩,⟨1,.phase⟩,⟨2,.phase⟩,⟨3,.phase⟩,⟨4,.phase⟩,⟨5,.phase⟩,⟨6,.phase⟩,⟨7,.phase⟩,⟨8,.phase⟩,⟨9,.phase⟩],none⟩:Oper)).run Tryz.prog w=.ok .skip w'/\Q .normal c w'):(Code.region 1 Zsv true).wp Tryz.prog Q base j:=by
 have k:(List.range 10).all (fun i=>(Zv Zsv i).isSome)=true:=by kernel_rfl
 refine Zce (A:=Zm9) (F:=Zg (Zcf p nn nr a)) 10 (by kernel_rfl) (by kernel_rfl) (by kernel_rfl) (by rw [n];kernel_rfl) ?_ (by decide) (fun i v w w'=>Jk (Zuv p nn nr a) i v w w') ?_ ?_
 ·exact fun i f=>Option.isSome_iff_exists.1 (List.all_eq_true.1 k i (List.mem_range.2 f))
 ·intro i f c w m l b
  exact Jet p nn nr a Q i f c w ⟨(Zc m (by kernel_rfl)).trans d.t0⟩ (e w l) b
 ·intro c w m l b
  obtain ⟨w',h1,h2⟩:=x c w m l (Jw (p:=eqv (.agg #[.slice none 0 0,.slice none 0 0,.int .i64 nn,.int .i64 nr])) (by kernel_rfl) rfl (b 8 (by omega))) (Jw (p:=fun v w=>∃ X,v=.pointer (some ⟨X,0,none⟩)/\a<=X/\Rec w X #[.slice none 0 0,.slice none 0 0,.int .i64 0,.int .i64 0] 25) (by kernel_rfl) rfl (b 9 (by omega)))
  exact Zb5 (by kernel_rfl) (Zz rfl) h1 h2
end
