/- A property is copied. -/
import Derived.Test.YteddjlbfbpecjaaGreatDoorJoin14
import Derived.Test.YteddjlbfbpecjaaGreatDoorFcopy
import Derived.Test.YteddjlbfbpecjaaGreatDoorJoin10
import Derived.Test.YteddjlbfbpecjaaGreatDoorJoin2
namespace Go.Proofs.YteddjlbfbpecjaaGreatDoor
section
open Go.RowKit Go.Shelf
set_option linter.all false
attribute [local go_sem] Oper.semAt_some
theorem Zay.block {lo B:Nat} {w w':World} {v:Value} {T:Zk} (h:Zay lo B w v T) (hk:∀ b,lo≤b→b<B→w'.heap[b]?=w.heap[b]?):Zay lo B w' v T :=
 h.keep fun b o h1 h2=>⟨World.cell?_of_block (hk b h1 h2),by simp [World.frozen?,hk b h1 h2]⟩
set_option maxRecDepth 100000 in
set_option maxHeartbeats 4000000 in
theorem Zgy (key:ByteArray) (T:Zk) (c0 c1 c2 c3 c4 c5:Value) (B:Nat) (w:World) (hB:B≤w.heap.size) (hv:Zaw B w (.agg #[c0,c1,c2,c3,c4,c5]) T) (ht:T.total≤2000000) :
  Calls Tryz.prog 101 #[.agg #[.string key,c0,c1,c2,c3,c4,c5]] w fun e w'=>∃ d0 d1 d2 d3 d4 d5,e=.returned (.agg #[.string key,d0,d1,d2,d3,d4,d5])∧Zay w.heap.size w'.heap.size w' (.agg #[d0,d1,d2,d3,d4,d5]) T∧Below w.heap.size w w':=by
 obtain ⟨k,x,n,s,ks,ts⟩:=T
 have HV:=Zb hv
 simp only [Zaw] at hv
 obtain ⟨ka,kc,la,lc,hag,_⟩:=hv
 obtain ⟨rfl,rfl,rfl,rfl,rfl,rfl⟩:c0=.int .i64 k∧c1=.bool x∧c2=.int .i64 n∧c3=.string s∧c4=.slice ka ks.length kc∧c5=.slice la ts.length lc:=by
  simpa using hag
 clear hag
 have HT:=Zb ht
 clear ht
 go_enter Tryz.func101,Tryz.ntmps101
 go_upto_region 1 with fail
 generalize hW1:World.alloc _ _=W1
 have HB1:Hid (Below w.heap.size w W1):=by rw [← hW1];exact ((Below.refl _ _).alloc (Nat.le_refl _) _).alloc (by simp) _
 have HR1:Hid (Rec W1 w.heap.size #[.string key,.int .i64 k,.bool x,.int .i64 n,.string s,.slice ka ks.length kc,.slice la ts.length lc] 79):=by
  rw [← hW1];exact (Zl _ _ _).alloc _
 have HZ1:Hid (Rec W1 (w.heap.size+1) #[.string ⟨#[]⟩,.int .i64 0,.bool false,.int .i64 0,.string ⟨#[]⟩,.slice none 0 0,.slice none 0 0] 79):=by
  have h:=Zl (w.alloc (.cells #[.string key,.int .i64 k,.bool x,.int .i64 n,.string s,.slice ka ks.length kc,.slice la ts.length lc] 79)) #[.string ⟨#[]⟩,.int .i64 0,.bool false,.int .i64 0,.string ⟨#[]⟩,.slice none 0 0,.slice none 0 0] 79
  rw [World.size_alloc,hW1] at h
  exact h
 have hs1:W1.heap.size=w.heap.size+2:=by rw [← hW1];simp
 clear hW1
 have HC:=Zb (Zvf (.mk k x n s ks ts) B _ W1 (Nat.le_trans hB HB1.out.size) (HV.out.below (HB1.out.mono hB)) HT.out)
 have r1:=HR1.out.cell 1 rfl
 have r2:=HR1.out.cell 2 rfl
 have r3:=HR1.out.cell 3 rfl
 have r4:=HR1.out.cell 4 rfl
 have r5:=HR1.out.cell 5 rfl
 have r6:=HR1.out.cell 6 rfl
 go_wp2_with fail
 refine HC.out.mono ?_
 rintro e w2 ⟨v',rfl,hl,hb2⟩
 have HL:=Zb hl
 simp only [Zay] at hl
 obtain ⟨ka',kc',la',lc',rfl,_⟩:=hl
 have HB2:=Zb (Za HB1.out hb2)
 have HR2:=Zb (HR1.out.below hb2 HR1.out.lt)
 have HZ2:=Zb (HZ1.out.below hb2 HZ1.out.lt)
 have hs2:w.heap.size+2≤w2.heap.size:=by have:=hb2.size;omega
 clear hb2 r1 r2 r3 r4 r5 r6 HC HR1 HZ1
 have r1:=HR2.out.cell 1 rfl
 have r2:=HR2.out.cell 2 rfl
 have r3:=HR2.out.cell 3 rfl
 have r4:=HR2.out.cell 4 rfl
 have r5:=HR2.out.cell 5 rfl
 have r6:=HR2.out.cell 6 rfl
 have z1:=HR2.out.z 1
 have z2:=HR2.out.z 2
 have z3:=HR2.out.z 3
 have z4:=HR2.out.z 4
 have z5:=HR2.out.z 5
 have z6:=HR2.out.z 6
 go_upto_region 2 with fail
 generalize hW3:World.setCell _ _ _=W3
 have HR3:Hid (Rec W3 w.heap.size #[.string key,.int .i64 k,.bool x,.int .i64 n,.string s,.slice ka' ks.length kc',.slice la' ts.length lc'] 79):=by
  rw [← hW3]
  exact ((((((HR2.out.set 1 _).set 2 _).set 3 _).set 4 _).set 5 _).set 6 _)
 have HZ3:Hid (Rec W3 (w.heap.size+1) #[.string ⟨#[]⟩,.int .i64 0,.bool false,.int .i64 0,.string ⟨#[]⟩,.slice none 0 0,.slice none 0 0] 79):=by
  rw [← hW3]
  exact ((((((HZ2.out.other (by omega)).other (by omega)).other (by omega)).other (by omega)).other (by omega)).other (by omega))
 have HB3:Hid (Below w.heap.size w W3):=by
  rw [← hW3]
  exact ((((((HB2.out.setCell (p:=⟨w.heap.size,1,none⟩) (Nat.le_refl _) _).setCell (p:=⟨w.heap.size,2,none⟩) (Nat.le_refl _) _).setCell (p:=⟨w.heap.size,3,none⟩) (Nat.le_refl _) _).setCell (p:=⟨w.heap.size,4,none⟩) (Nat.le_refl _) _).setCell (p:=⟨w.heap.size,5,none⟩) (Nat.le_refl _) _).setCell (p:=⟨w.heap.size,6,none⟩) (Nat.le_refl _) _)
 have HK3:Hid (∀ b,w.heap.size≠b→W3.heap[b]?=w2.heap[b]?):=fun b hb=>by
  rw [← hW3]
  repeat rw [Below.heap_setCell _ _ _ _ (Ne.symm hb)]
 have hs3:W3.heap.size=w2.heap.size:=by rw [← hW3];simp
 clear hW3 r1 r2 r3 r4 r5 r6 z1 z2 z3 z4 z5 z6
 have r0:=HR3.out.cell 0 rfl
 have r1:=HR3.out.cell 1 rfl
 have r2:=HR3.out.cell 2 rfl
 have r3:=HR3.out.cell 3 rfl
 have r4:=HR3.out.cell 4 rfl
 have r5:=HR3.out.cell 5 rfl
 have r6:=HR3.out.cell 6 rfl
 have q0:=HZ3.out.cell 0 rfl
 have z0:=HZ3.out.z 0
 have q1:=HZ3.out.cell 1 rfl
 have z1:=HZ3.out.z 1
 have q2:=HZ3.out.cell 2 rfl
 have z2:=HZ3.out.z 2
 have q3:=HZ3.out.cell 3 rfl
 have z3:=HZ3.out.z 3
 have q4:=HZ3.out.cell 4 rfl
 have z4:=HZ3.out.z 4
 have q5:=HZ3.out.cell 5 rfl
 have z5:=HZ3.out.z 5
 have q6:=HZ3.out.cell 6 rfl
 have z6:=HZ3.out.z 6
 go_wp2_with fail
 generalize hW4:World.setCell _ _ _=W4
 have HR4:Hid (Rec W4 (w.heap.size+1) #[.string key,.int .i64 k,.bool x,.int .i64 n,.string s,.slice ka' ks.length kc',.slice la' ts.length lc'] 79):=by
  rw [← hW4]
  exact (((((((HZ3.out.set 0 _).set 1 _).set 2 _).set 3 _).set 4 _).set 5 _).set 6 _)
 have HB4:Hid (Below w.heap.size w W4):=by
  rw [← hW4]
  exact (((((((HB3.out.setCell (p:=⟨w.heap.size+1,0,none⟩) (Nat.le_succ _) _).setCell (p:=⟨w.heap.size+1,1,none⟩) (Nat.le_succ _) _).setCell (p:=⟨w.heap.size+1,2,none⟩) (Nat.le_succ _) _).setCell (p:=⟨w.heap.size+1,3,none⟩) (Nat.le_succ _) _).setCell (p:=⟨w.heap.size+1,4,none⟩) (Nat.le_succ _) _).setCell (p:=⟨w.heap.size+1,5,none⟩) (Nat.le_succ _) _).setCell (p:=⟨w.heap.size+1,6,none⟩) (Nat.le_succ _) _)
 have HK4:Hid (∀ b,w.heap.size+1≠b→W4.heap[b]?=W3.heap[b]?):=fun b hb=>by
  rw [← hW4]
  repeat rw [Below.heap_setCell _ _ _ _ (Ne.symm hb)]
 have hs4:W4.heap.size=w2.heap.size:=by rw [← hW4];simp [hs3]
 clear hW4
 have d0:=HR4.out.cell 0 rfl
 have d1:=HR4.out.cell 1 rfl
 have d2:=HR4.out.cell 2 rfl
 have d3:=HR4.out.cell 3 rfl
 have d4:=HR4.out.cell 4 rfl
 have d5:=HR4.out.cell 5 rfl
 have d6:=HR4.out.cell 6 rfl
 refine bodyPost_ret (v:=.agg #[.string key,.int .i64 k,.bool x,.int .i64 n,.string s,.slice ka' ks.length kc',.slice la' ts.length lc']) (by simp [results,Tryz.results101,go_sem,d0,d1,d2,d3,d4,d5,d6]) rfl ⟨_,_,_,_,_,_,rfl,?_,HB4.out⟩
 rw [hs4]
 refine Zay.mono (by omega) (Nat.le_refl _) (HL.out.block fun b h1 h2=>?_)
 rw [HK4.out b (by omega),HK3.out b (by omega)]
end
section
open Go.RowKit Go.Shelf
set_option maxRecDepth 100000
set_option linter.all false
attribute [local go_sem] Oper.semAt_some
theorem Zib (f:Value) (n c:Nat) (w:World):Calls Tryz.prog 100 #[.slice none n c,f] w fun e w'=>e=.returned (.slice none 0 0)∧w'=w:=by
 have hq:(binOp .eql 45 (.slice none n c) (.slice none 0 0)).run Tryz.prog w=.ok (.bool true) w:=by
  have:=Lib.run_eql_slice_nil (P:=Tryz.prog) w 45 79 none n c 0 0 Tryz.underlying45
  simpa using this
 go_enter Tryz.func100,Tryz.ntmps100
 go_wp2_with fail
 go_ret
 exact ⟨rfl,rfl⟩
theorem Tryz.info79  : (Tryz.prog.info? 79).map (fun i=>(i.zero,i.size,i.bytes))=some (some (.agg #[.string ⟨#[]⟩,.int .i64 0,.bool false,.int .i64 0,.string ⟨#[]⟩,.slice none 0 0,.slice none 0 0]),7,104):=by kernel_rfl
set_option maxHeartbeats 4000000 in
theorem Znq (key:ByteArray) (T:Zk) (bl off pc B:Nat) (w:World) (hB:B≤w.heap.size) (hbl:bl<B) (hpc:1≤pc) (hpc2:pc≤9223372036854775807) (hp:Zdw B w bl off (key,T)) (ht:T.total≤2000000) :
  Calls Tryz.prog 100 #[.slice (some ⟨bl,off,none⟩) 1 pc,.func (.func 101) #[] #[]] w fun e w'=>∃ d0 d1 d2 d3 d4 d5,e=.returned (.slice (some ⟨w.heap.size,0,none⟩) 1 1)∧Rec w' w.heap.size #[.string key,d0,d1,d2,d3,d4,d5] 79∧Zay (w.heap.size+1) w'.heap.size w' (.agg #[d0,d1,d2,d3,d4,d5]) T∧Below w.heap.size w w':=by
 obtain ⟨a0,hs0,v0,v1,v2,v3,v4,v5,⟨c0,c1,c2,c3,c4,c5⟩,hv⟩:=hp
 simp only at a0 hv
 obtain ⟨i0,hi,hz0,hz1,hz2⟩:=info_parts Tryz.info79
 have hmk:∀ W:World,(Instr.makeSlice 45 (.int .i64 1) (.int .i64 1)).run Tryz.prog W=.ok (.slice (some ⟨W.heap.size,0,none⟩) 1 1) (W.alloc (.cells #[.string ⟨#[]⟩,.int .i64 0,.bool false,.int .i64 0,.string ⟨#[]⟩,.slice none 0 0,.slice none 0 0] 79)):=fun W=>by
  have:=run_makeSlice (P:=Tryz.prog) W 45 79 i0 _ Tryz.underlying45 hi hz0 .i64 .i64 1 1 (by omega) (by omega) (by rw [hz1];omega) (by rw [hz2];omega) (by omega)
  have hmc:madeCells #[.string ⟨#[]⟩,.int .i64 0,.bool false,.int .i64 0,.string ⟨#[]⟩,.slice none 0 0,.slice none 0 0] 7=#[.string ⟨#[]⟩,.int .i64 0,.bool false,.int .i64 0,.string ⟨#[]⟩,.slice none 0 0,.slice none 0 0]:=by
   unfold madeCells
   rw [show Array.range 7=#[0,1,2,3,4,5,6] from by decide]
   simp
  simpa [hz1,Value.cells,hmc] using this
 have heq:∀ W:World,(binOp .eql 45 (.slice (some ⟨bl,off,none⟩) 1 pc) (.slice none 0 0)).run Tryz.prog W=.ok (.bool false) W:=fun W=>by
  have:=Lib.run_eql_slice_nil (P:=Tryz.prog) W 45 79 (some ⟨bl,off,none⟩) 1 pc 0 0 Tryz.underlying45
  simpa using this
 obtain ⟨k,x,n,s,ks,ts⟩:=T
 have HV:=Zb hv
 simp only [Zaw] at hv
 obtain ⟨ka,kc,la,lc,hag,_⟩:=hv
 obtain ⟨rfl,rfl,rfl,rfl,rfl,rfl⟩:v0=.int .i64 k∧v1=.bool x∧v2=.int .i64 n∧v3=.string s∧v4=.slice ka ks.length kc∧v5=.slice la ts.length lc:=by
  simpa using hag
 have HT:=Zb ht
 clear hag ht hi hz0 hz1 hz2
 go_enter Tryz.func100,Tryz.ntmps100
 go_upto_region 4 with fail
 generalize hW1:World.alloc _ _=W1
 have HB1:Hid (Below w.heap.size w W1):=by rw [← hW1];exact (Below.refl _ _).alloc (Nat.le_refl _) _
 have HR1:Hid (Rec W1 w.heap.size #[.string ⟨#[]⟩,.int .i64 0,.bool false,.int .i64 0,.string ⟨#[]⟩,.slice none 0 0,.slice none 0 0] 79):=by rw [← hW1];exact Zl _ _ _
 have HS1:Hid (W1.heap.size=w.heap.size+1):=by rw [← hW1];show _=_;simp
 clear hW1 hmk heq
 have hblw:bl<w.heap.size:=Nat.lt_of_lt_of_le hbl hB
 have a0':=(HB1.out.cell (p:=⟨bl,off,none⟩) hblw).trans a0
 have c0':=(HB1.out.cell (p:=⟨bl,off+1,none⟩) hblw).trans c0
 have c1':=(HB1.out.cell (p:=⟨bl,off+2,none⟩) hblw).trans c1
 have c2':=(HB1.out.cell (p:=⟨bl,off+3,none⟩) hblw).trans c2
 have c3':=(HB1.out.cell (p:=⟨bl,off+4,none⟩) hblw).trans c3
 have c4':=(HB1.out.cell (p:=⟨bl,off+5,none⟩) hblw).trans c4
 have c5':=(HB1.out.cell (p:=⟨bl,off+6,none⟩) hblw).trans c5
 clear a0 c0 c1 c2 c3 c4 c5
 go_wp2_with fail
 go_loopw [15] (fun i wr=>(i=.int .i64 0∧wr=W1)∨(i=.int .i64 1∧Below w.heap.size w wr∧∃ d0 d1 d2 d3 d4 d5,Rec wr w.heap.size #[.string key,d0,d1,d2,d3,d4,d5] 79∧Zay (w.heap.size+1) wr.heap.size wr (.agg #[d0,d1,d2,d3,d4,d5]) (.mk k x n s ks ts))) (fun i _=>1 - (intOf i).toNat)
 case atStart=>exact .inl ⟨rfl,rfl⟩
 case round =>
  rcases hrel with ⟨rfl,hw⟩ | ⟨rfl,hbr,d0,d1,d2,d3,d4,d5,hre,hli⟩
  ·rw [hw]
   clear hw
   go_upto_region 7 with fail
   generalize hW2:World.alloc _ _=W2
   have HB2:Hid (Below W1.heap.size W1 W2):=by rw [← hW2];exact (Below.refl _ _).alloc (Nat.le_refl _) _
   have HR2:Hid (Rec W2 W1.heap.size #[.string key,.int .i64 k,.bool x,.int .i64 n,.string s,.slice ka ks.length kc,.slice la ts.length lc] 79):=by rw [← hW2];exact Zl _ _ _
   have HA2:Hid (Rec W2 w.heap.size #[.string ⟨#[]⟩,.int .i64 0,.bool false,.int .i64 0,.string ⟨#[]⟩,.slice none 0 0,.slice none 0 0] 79):=by rw [← hW2];exact HR1.out.alloc _
   clear hW2 a0' c0' c1' c2' c3' c4' c5'
   have hs2:W1.heap.size<W2.heap.size:=HR2.out.lt
   have HC:=Zb (Zgy key (.mk k x n s ks ts) _ _ _ _ _ _ B W2 (by have:=HB1.out.size;omega) (HV.out.below ((Za HB1.out HB2.out).mono hB)) HT.out)
   have r0:=HR2.out.cell 0 rfl
   have r1:=HR2.out.cell 1 rfl
   have r2:=HR2.out.cell 2 rfl
   have r3:=HR2.out.cell 3 rfl
   have r4:=HR2.out.cell 4 rfl
   have r5:=HR2.out.cell 5 rfl
   have r6:=HR2.out.cell 6 rfl
   go_wp2_with fail
   refine HC.out.mono ?_
   rintro e w3 ⟨d0,d1,d2,d3,d4,d5,rfl,hl3,hb3⟩
   have HL3:=Zb hl3
   simp only [Zay] at hl3
   obtain ⟨ka',kc',la',lc',hag,_⟩:=hl3
   obtain ⟨rfl,rfl,rfl,rfl,rfl,rfl⟩:d0=.int .i64 k∧d1=.bool x∧d2=.int .i64 n∧d3=.string s∧d4=.slice ka' ks.length kc'∧d5=.slice la' ts.length lc':=by
    simpa using hag
   have HA3:=Zb (HA2.out.below hb3 HA2.out.lt)
   have HB3:=Zb (Za (Za HB1.out HB2.out) hb3)
   clear hb3 hag r0 r1 r2 r3 r4 r5 r6 HC
   have q0:=HA3.out.cell 0 rfl
   have z0:=HA3.out.z 0
   have q1:=HA3.out.cell 1 rfl
   have z1:=HA3.out.z 1
   have q2:=HA3.out.cell 2 rfl
   have z2:=HA3.out.z 2
   have q3:=HA3.out.cell 3 rfl
   have z3:=HA3.out.z 3
   have q4:=HA3.out.cell 4 rfl
   have z4:=HA3.out.z 4
   have q5:=HA3.out.cell 5 rfl
   have z5:=HA3.out.z 5
   have q6:=HA3.out.cell 6 rfl
   have z6:=HA3.out.z 6
   go_upto_region 8 with fail
   generalize hW4:World.setCell _ _ _=W4
   have HR4:Hid (Rec W4 w.heap.size #[.string key,.int .i64 k,.bool x,.int .i64 n,.string s,.slice ka' ks.length kc',.slice la' ts.length lc'] 79):=by
    rw [← hW4]
    exact (((((((HA3.out.set 0 _).set 1 _).set 2 _).set 3 _).set 4 _).set 5 _).set 6 _)
   have HB4:Hid (Below w.heap.size w W4):=by
    rw [← hW4]
    exact (((((((HB3.out.setCell (p:=⟨w.heap.size,0,none⟩) (Nat.le_refl _) _).setCell (p:=⟨w.heap.size,1,none⟩) (Nat.le_refl _) _).setCell (p:=⟨w.heap.size,2,none⟩) (Nat.le_refl _) _).setCell (p:=⟨w.heap.size,3,none⟩) (Nat.le_refl _) _).setCell (p:=⟨w.heap.size,4,none⟩) (Nat.le_refl _) _).setCell (p:=⟨w.heap.size,5,none⟩) (Nat.le_refl _) _).setCell (p:=⟨w.heap.size,6,none⟩) (Nat.le_refl _) _)
   have HK4:Hid (∀ b,w.heap.size≠b→W4.heap[b]?=w3.heap[b]?):=fun b hb=>by
    rw [← hW4]
    repeat rw [Below.heap_setCell _ _ _ _ (Ne.symm hb)]
   have hs4:W4.heap.size=w3.heap.size:=by rw [← hW4];simp
   clear hW4 q0 q1 q2 q3 q4 q5 q6 z0 z1 z2 z3 z4 z5 z6
   have HL4:Hid (Zay (w.heap.size+1) W4.heap.size W4 (.agg #[.int .i64 k,.bool x,.int .i64 n,.string s,.slice ka' ks.length kc',.slice la' ts.length lc']) (.mk k x n s ks ts)):=by
    show Zay _ _ _ _ _
    rw [hs4]
    have hs1:=HS1.out
    exact Zay.mono (by omega) (Nat.le_refl _) (HL3.out.block fun b h1 h2=>HK4.out b (by omega))
   go_wp2_with fail
   go_roundw
   case rel=>exact .inr ⟨by go_num,HB4.out,_,_,_,_,_,_,HR4.out,HL4.out⟩
   case measure=>simp [intOf]
  ·have HBR:=Zb hbr
   have HRE:=Zb hre
   have HLI:=Zb hli
   clear hbr hre hli
   go_wp2_with fail
   go_ret
   exact ⟨d0,d1,d2,d3,d4,d5,rfl,HRE.out,HLI.out,HBR.out⟩
end
section
open Go.RowKit Go.Shelf
set_option linter.all false
attribute [local go_sem] Oper.semAt_some
theorem Tryz.info47  : (Tryz.prog.info? 47).map (fun i=>(i.zero,i.size,i.bytes))=some (some (.agg #[.int .i64 0,.slice none 0 0,.slice none 0 0]),3,56):=by kernel_rfl
end
section
open Go.RowKit Go.Shelf Go.WideShapes
set_option maxRecDepth 100000
set_option linter.all false
noncomputable def Zqe  : Array Oper:=Jg Tryz.f52 1
def Je1  : List Sig:=[⟨8,.move (.tmp 0),153,none⟩,⟨9,.nilCheck (.tmp 8),0,none⟩,⟨10,.fieldAddr 71 (.tmp 9) 2,0,none⟩,⟨11,.load 2 (.tmp 10),2,none⟩,⟨12,.move (.tmp 0),153,none⟩,⟨13,.nilCheck (.tmp 12),0,none⟩,⟨14,.fieldAddr 71 (.tmp 13) 3,0,none⟩,⟨15,.load 2 (.tmp 14),2,none⟩,⟨16,.build 25 #[(2,.tmp 11),(3,.tmp 15)],25,none⟩,⟨3,.alloc 25,0,none⟩]
theorem Jbk  : (Jq Zqe).take Je1.length=Je1.map some:=by kernel_rfl
def Zlj (i:Nat):List Nat:=nth [] [[],[0],[1],[2],[],[4],[5],[6],[3,7],[],[0,1,2,3,4,5,6,7,8,9]] i
def Zb4 (p:GP) (nn nr:Int) (B0:Nat):List (Value→World→Prop) :=
 [eqv (.pointer (some ⟨p.g,0,none⟩)),eqv (.pointer (some ⟨p.g,0,none⟩)),eqv (.pointer (some ⟨p.g,2,none⟩)),eqv (.int .i64 nn),eqv (.pointer (some ⟨p.g,0,none⟩)),eqv (.pointer (some ⟨p.g,0,none⟩)),eqv (.pointer (some ⟨p.g,3,none⟩)),eqv (.int .i64 nr),eqv (.agg #[.slice none 0 0,.slice none 0 0,.int .i64 nn,.int .i64 nr]),fun v w=>∃ X,v=.pointer (some ⟨X,0,none⟩)∧B0≤X∧Rec w X #[.slice none 0 0,.slice none 0 0,.int .i64 0,.int .i64 0] 25]
structure Zj2 (p:GP) (nn nr:Int) (B0:Nat) (c:Act):Prop where
 t0:c.eval (.tmp 0)=.pointer (some ⟨p.g,0,none⟩)
structure Zg4 (p:GP) (nn nr:Int) (B0:Nat) (w:World):Prop where
 c2:w.cell? ⟨p.g,2,none⟩=some (.int .i64 nn)
 c3:w.cell? ⟨p.g,3,none⟩=some (.int .i64 nr)
 b0:B0≤w.heap.size
theorem Jbl (p:GP) (nn nr:Int) (B0:Nat) (Q:Exit→Act→World→Prop) (c:Act) (w:World) (hb:Zj2 p nn nr B0 c) (hW:Zg4 p nn nr B0 w) (hF:∀ q0 ∈ Zlj 9,Zf (Zb4 p nn nr B0) q0 (val Zqe c q0) w) :
  Zak Tryz.prog Zqe Q (Zf (Zb4 p nn nr B0)) 9 c w:=by
 have ho:Zqe[9]?=some (⟨some 3,.alloc 25,0, "graph.go:126",#[],none⟩:Oper):=by kernel_rfl
 have hw:Region.wanted (⟨some 3,.alloc 25,0, "graph.go:126",#[],none⟩:Oper) (yielded Zqe c.tmps)=true:=Zn rfl
 have ec:=evc c
 have ef:=evf c
 refine Ze ho hw (v:=.pointer (some ⟨w.heap.size,0,none⟩)) (w':=w.alloc (.cells #[.slice none 0 0,.slice none 0 0,.int .i64 0,.int .i64 0] 25)) ?_ ⟨w.heap.size,rfl,hW.b0,Zl _ _ _⟩ ((Below.refl _ _).alloc (Nat.le_refl _) _)
 generalize c.eval=ρ at *
 clear hF hb hW hw ho
 go_simp
theorem Zr3 (p:GP) (nn nr:Int) (B0:Nat):∀ pr ∈ Zb4 p nn nr B0,Zbv pr:=by
 unfold Zb4
 iterate 10 (first | refine List.forall_mem_cons.2 ⟨Jb _,?_⟩ | refine List.forall_mem_cons.2 ⟨fun v w w' ⟨X,h,hX,hr⟩ hb=>⟨X,h,hX,hr.below hb hr.lt⟩,?_⟩)
 exact List.forall_mem_nil _
set_option maxHeartbeats 4000000 in
theorem Jbm (p:GP) (nn nr:Int) (B0:Nat) (Q:Exit→Act→World→Prop):∀ i,i<10→(fun i=>i ∉ ([9]:List Nat)→∀ c w,Zj2 p nn nr B0 c→Zg4 p nn nr B0 w→(∀ q0 ∈ Zlj i,Zf (Zb4 p nn nr B0) q0 (val Zqe c q0) w)→Zak Tryz.prog Zqe Q (Zf (Zb4 p nn nr B0)) i c w) i:=by
 iterate 10 (refine Zd ?_ (by
  intro hn c w hb hW hF
  first
  | exact absurd (by decide) hn
  | (have hEq:=Zag Jbk (by decide) hF
     refine Zar Jbk (by decide) rfl (fun _=>rfl) ?_
     obtain ⟨t0⟩:=hb
     obtain ⟨c2,c3,b0⟩:=hW
     have ec:=evc c
     have ef:=evf c
     dsimp only [Zlj,Je1,Zb4,nth,Zcp,Zbd,eqv] at hEq ⊢
     refine .inl fun pos af=>?_
     clear hF hn
     dsimp only [Sig.oper]
     generalize c.eval=ρ at *
     go_simp
     done)))
 exact Zj
theorem Jbn (p:GP) (nn nr:Int) (B0:Nat) (Q:Exit→Act→World→Prop):∀ i,i<10→(fun i=>∀ c w,Zj2 p nn nr B0 c→Zg4 p nn nr B0 w→(∀ q0 ∈ Zlj i,Zf (Zb4 p nn nr B0) q0 (val Zqe c q0) w)→Zak Tryz.prog Zqe Q (Zf (Zb4 p nn nr B0)) i c w) i:=by
 intro i hi
 by_cases h9:i=9
 ·subst h9;exact fun c w=>Jbl p nn nr B0 Q c w
 exact Jbm p nn nr B0 Q i hi (by simp [*])
theorem Zr4 (p:GP) (nn nr:Int) (B0:Nat) (Q:Exit→Act→World→Prop) (base:Act) (w0:World) (hsz:base.tmps.size=62) (hb:Zj2 p nn nr B0 base)
  (hW:∀ w,Below w0.heap.size w0 w→Zg4 p nn nr B0 w) (hL:∀ c w,Zae Zqe base c→Below w0.heap.size w0 w→c.eval (.tmp 16)=.agg #[.slice none 0 0,.slice none 0 0,.int .i64 nn,.int .i64 nr]→(fun v w=>∃ X,v=.pointer (some ⟨X,0,none⟩)∧B0≤X∧Rec w X #[.slice none 0 0,.slice none 0 0,.int .i64 0,.int .i64 0] 25) (c.eval (.tmp 3)) w→∃ w',(execOp c.eval (⟨none,.store 25 (.tmp 3) (.tmp 16),0, "graph.go:126",#[⟨9,.data⟩,⟨8,.data⟩,⟨0,.phase⟩,⟨1,.phase⟩,⟨2,.phase⟩,⟨3,.phase⟩,⟨4,.phase⟩,⟨5,.phase⟩,⟨6,.phase⟩,⟨7,.phase⟩,⟨8,.phase⟩,⟨9,.phase⟩],none⟩:Oper)).run Tryz.prog w=.ok .skip w'∧Q .normal c w'):(Code.region 1 Zqe true).wp Tryz.prog Q base w0:=by
 have hall:(List.range 10).all (fun i=>(Zu Zqe i).isSome)=true:=by kernel_rfl
 refine Zb3 (A:=Zlj) (F:=Zf (Zb4 p nn nr B0)) 10 (by kernel_rfl) (by kernel_rfl) (by kernel_rfl) (by rw [hsz];kernel_rfl) ?_ (by decide) (fun i v w w'=>Jd (Zr3 p nn nr B0) i v w w') ?_ ?_
 ·exact fun i hi=>Option.isSome_iff_exists.1 (List.all_eq_true.1 hall i (List.mem_range.2 hi))
 ·intro i hi c w hS hB hF
  exact Jbn p nn nr B0 Q i hi c w ⟨(Zc hS (by kernel_rfl)).trans hb.t0⟩ (hW w hB) hF
 ·intro c w hS hB hF
  obtain ⟨w',h1,h2⟩:=hL c w hS hB (Je (p:=eqv (.agg #[.slice none 0 0,.slice none 0 0,.int .i64 nn,.int .i64 nr])) (by kernel_rfl) rfl (hF 8 (by omega))) (Je (p:=fun v w=>∃ X,v=.pointer (some ⟨X,0,none⟩)∧B0≤X∧Rec w X #[.slice none 0 0,.slice none 0 0,.int .i64 0,.int .i64 0] 25) (by kernel_rfl) rfl (hF 9 (by omega)))
  exact Za6 (by kernel_rfl) (Zn rfl) h1 h2
end
