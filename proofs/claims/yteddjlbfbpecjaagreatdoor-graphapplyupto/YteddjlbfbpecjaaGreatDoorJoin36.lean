/- Changes are done to a graph: the program's word. -/
import Derived.Test.YteddjlbfbpecjaaGreatDoorJoin31
import Derived.Test.YteddjlbfbpecjaaGreatDoorOpenu
namespace Go.Proofs.YteddjlbfbpecjaaGreatDoor
section
open Go.RowKit Go.Shelf
set_option linter.all false
attribute [local go_sem] Oper.semAt_some
def Zw5  : Zy:=⟨[],[],0,0⟩
theorem Zl1 (B:Nat) (w:World):Zq B w (.agg #[.slice none 0 0,.slice none 0 0,.int .i64 0,.int .i64 0]) Zw5:=⟨none,0,none,0,rfl,⟨none,0,rfl,Nat.le_refl _,by omega,.inl rfl⟩,⟨none,0,rfl,Nat.le_refl _,by omega,.inl rfl⟩⟩
def Zbb (g:Zy) (cs:List Ji):Zy × Int :=
 if Zaj g=true∧cs.any Zaz=false∧Zaj (cs.foldl doC g)=true then (cs.foldl doC g,0) else (Zw5,2)
structure GF (m:Nat) (g:Zy):Prop where
 n:∀ x ∈ g.nodes,Zed 1048576 x
 r:∀ x ∈ g.rels,Zgv 1048576 x
 nl:g.nodes.length≤m
 rl:g.rels.length≤m
 nn:-9223372036854775808≤g.nn∧g.nn≤9223372036854775807
 nr:-9223372036854775808≤g.nr∧g.nr≤9223372036854775807
structure CF (c:Ji):Prop where
 i:-9223372036854775808≤c.id∧c.id≤9223372036854775807
 o:-9223372036854775808≤c.other∧c.other≤9223372036854775807
 n:Zed 1048576 c.node
 r:Zgv 1048576 c.rel
theorem Zki {α:Type} (key:α→Int) (n:α):∀ l:List α,(Zcf key n l).length≤l.length+1
 | []=>by simp [Zcf]
 | x::r=>by
  have:=Zki key n r
  rw [Zcf]
  split
  ·simp only [List.length_cons];omega
  ·split<;>simp
theorem GF.step {m:Nat} {g:Zy} {c:Ji} (h:GF m g) (hc:CF c):GF (m+1) (doC g c):=by
 have h1:=h.nl
 have h2:=h.rl
 have h3:=Zki Zp.id c.node g.nodes
 have h4:=Zki Jj.id c.rel g.rels
 have h5:(Zbc Zp.id c.id g.nodes).length≤g.nodes.length:=List.length_filter_le _ _
 have h6:(Zbc Jj.id c.id g.rels).length≤g.rels.length:=List.length_filter_le _ _
 unfold doC
 split
 ·exact ⟨fun x hx=>(Zjz hx).elim (fun e=>by rw [e];exact hc.n) (h.n x),h.r,by dsimp only;omega,by dsimp only;omega,h.nn,h.nr⟩
 ·split
  ·exact ⟨h.n,fun x hx=>(Zjz hx).elim (fun e=>by rw [e];exact hc.r) (h.r x),by dsimp only;omega,by dsimp only;omega,h.nn,h.nr⟩
  ·split
   ·exact ⟨fun x hx=>h.n x (List.mem_filter.1 hx).1,h.r,by dsimp only;omega,by dsimp only;omega,h.nn,h.nr⟩
   ·split
    ·exact ⟨h.n,fun x hx=>h.r x (List.mem_filter.1 hx).1,by dsimp only;omega,by dsimp only;omega,h.nn,h.nr⟩
    ·split
     ·exact ⟨h.n,h.r,by dsimp only;omega,by dsimp only;omega,hc.i,hc.o⟩
     ·exact ⟨h.n,h.r,by omega,by omega,h.nn,h.nr⟩
theorem GF.steps  : ∀ (cs:List Ji) {m:Nat} {g:Zy},GF m g→(∀ c ∈ cs,CF c)→GF (m+cs.length) (cs.foldl doC g)
 | [],m,g,h,_=>h
 | c::r,m,g,h,hc=>by
  have:=GF.steps r (h.step (hc c List.mem_cons_self)) fun d hd=>hc d (List.mem_cons_of_mem _ hd)
  rw [List.length_cons,show m+(r.length+1)=m+1+r.length by omega]
  exact this
theorem GF.fit {m:Nat} {g:Zy} (h:GF m g) (hm:m≤1048576):Fit g:=Zu3 g (Nat.le_trans h.nl hm) (Nat.le_trans h.rl hm) h.n h.r h.nn h.nr
theorem Jz {cs:List Ji} {j:Nat} {c:Ji} (g:Zy) (h:cs[j]?=some c):(cs.take (j+1)).foldl doC g=doC ((cs.take j).foldl doC g) c:=by
 rw [List.take_add_one,h];simp [List.foldl_append]
theorem Zas.ps {B:Nat} {p:GP} {g:Zy} {N R:List (Int × Value)} {w:World} (h:Zas B p g N R w):PS w p g.nn g.nr N R:=⟨h.box.lt,h.box.cell 0 rfl,h.box.cell 1 rfl,h.box.cell 2 rfl,h.box.cell 3 rfl,h.n,h.r⟩
theorem Zas.below {B:Nat} {p:GP} {g:Zy} {N R:List (Int × Value)} {w w':World} (h:Zas B p g N R w) (hb:Below w.heap.size w w') (hB:B≤w.heap.size):Zas B p g N R w' :=
 ⟨h.ok,h.box.below hb h.box.lt,h.n.below hb (Nat.le_refl _),h.r.below hb (Nat.le_refl _),h.mn.turn fun v x q=>q.below (hb.mono hB),h.mr.turn fun v x q=>q.below (hb.mono hB)⟩
set_option maxRecDepth 100000 in
set_option maxHeartbeats 16000000 in
theorem Ztx (g:Zy) (cs:List Ji) (v:Value) (a:Option Addr) (cap:Nat) (w:World) (hE:Env w) (hg:Zq w.heap.size w v g) (hc:Za0 w.heap.size w a cs) (hcap:cs.length≤cap) (hcap2:cap≤9223372036854775807) (hf:GF 60 g) (hcf:∀ c ∈ cs,CF c) (hcl:cs.length≤20) :
  Calls Tryz.prog 21 #[v,.slice a cs.length cap] w fun e w'=>∃ v' er,e=.returned (.tuple #[v',.int .i64 er])∧(Zq w'.heap.size w' v' (Zbb g cs).1∧er=(Zbb g cs).2)∧Below w.heap.size w w':=by
 have fg:=hf.fit (by omega)
 have fh:=(hf.steps cs hcf).fit (by omega)
 have HG:=Zb (fun W (hb:Below w.heap.size w W)=>(hg.below hb))
 have HE:=Zb (fun W (hb:Below w.heap.size w W)=>hE.below hb hE.room)
 have HC:=Zb (fun W (hb:Below w.heap.size w W)=>Zga g w.heap.size v W hb.size (HE.out W hb) (HG.out W hb) fg.mild fg.nn fg.nr fg.ends)
 have HN:=Zb (fun W (hb:Below w.heap.size w W)=>Zlc cs a cap w.heap.size W hb.size hcap hcap2 (hc.below hb))
 have HCL:=Zb (fun W (hb:Below w.heap.size w W)=>hc.below hb)
 have HFH:=Zb fh
 have HGF:=Zb (hf.steps cs hcf)
 have HCF:=Zb hcf
 have HPA:Hid (∀ W,Below w.heap.size w W→Zaj g=true→Calls Tryz.prog 39 #[v] W fun e w'=>e=.returned (.agg #[.map (some (W.heap.size+2)),.map (some (W.heap.size+2+1)),.int .i64 g.nn,.int .i64 g.nr])∧Below W.heap.size W w'∧Zzc w.heap.size w' (W.heap.size+2) (W.heap.size+2+1) g.nodes g.rels):=fun W hb hk=>by
  unfold Zaj at hk
  simp only [Bool.and_eq_true] at hk
  have k1:=(Zfz hk.2.1.1).imp (S:=(·≠·)) fun h=>by omega
  have k2:=(Zfz hk.2.1.2).imp (S:=(·≠·)) fun h=>by omega
  exact Zip g w.heap.size v W hb.size (HG.out W hb) k1 k2 (fun n hn=>(hf.n n hn).1) fun r hr=>(hf.r r hr).1.1
 have HRI:Hid (Zaj g=true→(g.nodes.map Zp.id).Pairwise (·<·)∧(g.rels.map Jj.id).Pairwise (·<·)):=fun hk=>by
  unfold Zaj at hk
  simp only [Bool.and_eq_true] at hk
  exact ⟨Zfz hk.2.1.1,Zfz hk.2.1.2⟩
 obtain ⟨ok,hok⟩:∃ b,Zaj g=b:=⟨_,rfl⟩
 obtain ⟨nk,hnk⟩:∃ b,cs.any Zaz=b:=⟨_,rfl⟩
 rw [hok] at HC
 rw [hnk] at HN
 have HOK:=Zb hok
 have HNK:=Zb hnk
 have HZR:Hid ((ok=false∨nk=true∨Zaj (cs.foldl doC g)=false)→∀ (B:Nat) (W:World),Zq B W (.agg #[.slice none 0 0,.slice none 0 0,.int .i64 0,.int .i64 0]) (Zbb g cs).1∧(2:Int)=(Zbb g cs).2):=fun hh B W=>by
  have:Zbb g cs=(Zw5,2):=by
   unfold Zbb
   rw [if_neg]
   rintro ⟨h1,h2,h3⟩
   rw [hok] at h1
   rw [hnk] at h2
   rcases hh with e | e | e
   ·rw [e] at h1;cases h1
   ·rw [e] at h2;cases h2
   ·rw [e] at h3;cases h3
  rw [this]
  exact ⟨Zl1 _ _,rfl⟩
 obtain ⟨na,nc,ra,rc,rfl,hq1,hq2⟩:=hg
 clear hq1 hq2 hok hnk fg fh hc hcf hE hf
 generalize hnl:g.nodes.length=nl at HC HG HPA ⊢
 generalize hrl:g.rels.length=rl at HC HG HPA ⊢
 generalize hnn:g.nn=nn at HC HG HPA ⊢
 generalize hnr:g.nr=nr at HC HG HPA ⊢
 have HNN:=Zb hnn
 have HNR:=Zb hnr
 clear hnl hrl hnn hnr
 go_enter Tryz.func21,Tryz.ntmps21
 go_upto_region 1 with fail
 generalize hW1:World.alloc _ _=W1
 have HB1:Hid (Below w.heap.size w W1):=by rw [← hW1];exact ((Below.refl _ _).alloc (Nat.le_refl _) _).alloc (by simp) _
 have hr1:=(Zl w #[.slice na nl nc,.slice ra rl rc,.int .i64 nn,.int .i64 nr] 25).alloc (.cells #[.slice none 0 0,.slice none 0 0,.int .i64 0,.int .i64 0] 25)
 have hr2:=Zl (w.alloc (.cells #[.slice na nl nc,.slice ra rl rc,.int .i64 nn,.int .i64 nr] 25)) #[.slice none 0 0,.slice none 0 0,.int .i64 0,.int .i64 0] 25
 rw [hW1] at hr1 hr2
 rw [World.size_alloc] at hr2
 have HR1:=Zb hr1
 have HR2:=Zb hr2
 have a0:=hr1.cell 0 rfl
 have a1:=hr1.cell 1 rfl
 have a2:=hr1.cell 2 rfl
 have a3:=hr1.cell 3 rfl
 clear hW1 hr1 hr2
 go_wp2_with fail
 refine (HC.out W1 HB1.out).mono ?_
 rintro e w2 ⟨rfl,hb2⟩
 have HB2:=Zb hb2
 clear hb2 a0 a1 a2 a3 HC
 cases ok with
 | false =>
  replace HZR:=Zb (HZR.out (.inl rfl))
  have HZ2:=Zb (HR2.out.below HB2.out HR2.out.lt)
  have HW2:=Zb (Za HB1.out HB2.out)
  have y0:=HZ2.out.cell 0 rfl
  have y1:=HZ2.out.cell 1 rfl
  have y2:=HZ2.out.cell 2 rfl
  have y3:=HZ2.out.cell 3 rfl
  have s0:=HZ2.out.z 0
  have s1:=HZ2.out.z 1
  have s2:=HZ2.out.z 2
  have s3:=HZ2.out.z 3
  go_wp2_with fail
  generalize hWz:World.setCell _ _ _=Wz
  have HRz:Hid (Rec Wz (w.heap.size+1) #[.slice none 0 0,.slice none 0 0,.int .i64 0,.int .i64 0] 25):=by rw [← hWz];exact (((HZ2.out.set 0 _).set 1 _).set 2 _).set 3 _
  have HBz:Hid (Below w.heap.size w Wz):=by rw [← hWz];exact (((HW2.out.setCell (p:=⟨w.heap.size+1,_,none⟩) (Nat.le_succ _) _).setCell (p:=⟨w.heap.size+1,_,none⟩) (Nat.le_succ _) _).setCell (p:=⟨w.heap.size+1,_,none⟩) (Nat.le_succ _) _).setCell (p:=⟨w.heap.size+1,_,none⟩) (Nat.le_succ _) _
  clear hWz y0 y1 y2 y3 s0 s1 s2 s3
  have q0:=HRz.out.cell 0 rfl
  have q1:=HRz.out.cell 1 rfl
  have q2:=HRz.out.cell 2 rfl
  have q3:=HRz.out.cell 3 rfl
  refine bodyPost_ret (v:=.tuple #[.agg #[.slice none 0 0,.slice none 0 0,.int .i64 0,.int .i64 0],.int .i64 2]) ?_ rfl ⟨_,_,rfl,HZR.out _ _,HBz.out⟩
  simp [results,Tryz.results21,go_sem,q0,q1,q2,q3]
 | true =>
  go_wp2_with fail
  refine (HN.out w2 (Za HB1.out HB2.out)).mono ?_
  rintro e w3 ⟨rfl,hb3⟩
  have HB3:=Zb (Za HB2.out hb3)
  clear hb3 HN HB2
  cases nk with
  | true =>
   replace HZR:=Zb (HZR.out (.inr (.inl rfl)))
   have HZ2:=Zb (HR2.out.below HB3.out HR2.out.lt)
   have HW2:=Zb (Za HB1.out HB3.out)
   have y0:=HZ2.out.cell 0 rfl
   have y1:=HZ2.out.cell 1 rfl
   have y2:=HZ2.out.cell 2 rfl
   have y3:=HZ2.out.cell 3 rfl
   have s0:=HZ2.out.z 0
   have s1:=HZ2.out.z 1
   have s2:=HZ2.out.z 2
   have s3:=HZ2.out.z 3
   go_wp2_with fail
   generalize hWz:World.setCell _ _ _=Wz
   have HRz:Hid (Rec Wz (w.heap.size+1) #[.slice none 0 0,.slice none 0 0,.int .i64 0,.int .i64 0] 25):=by rw [← hWz];exact (((HZ2.out.set 0 _).set 1 _).set 2 _).set 3 _
   have HBz:Hid (Below w.heap.size w Wz):=by rw [← hWz];exact (((HW2.out.setCell (p:=⟨w.heap.size+1,_,none⟩) (Nat.le_succ _) _).setCell (p:=⟨w.heap.size+1,_,none⟩) (Nat.le_succ _) _).setCell (p:=⟨w.heap.size+1,_,none⟩) (Nat.le_succ _) _).setCell (p:=⟨w.heap.size+1,_,none⟩) (Nat.le_succ _) _
   clear hWz y0 y1 y2 y3 s0 s1 s2 s3
   have q0:=HRz.out.cell 0 rfl
   have q1:=HRz.out.cell 1 rfl
   have q2:=HRz.out.cell 2 rfl
   have q3:=HRz.out.cell 3 rfl
   refine bodyPost_ret (v:=.tuple #[.agg #[.slice none 0 0,.slice none 0 0,.int .i64 0,.int .i64 0],.int .i64 2]) ?_ rfl ⟨_,_,rfl,HZR.out _ _,HBz.out⟩
   simp [results,Tryz.results21,go_sem,q0,q1,q2,q3]
  | false =>
   have hra:=HR1.out.below HB3.out HR1.out.lt
   have a0:=hra.cell 0 rfl
   have a1:=hra.cell 1 rfl
   have a2:=hra.cell 2 rfl
   have a3:=hra.cell 3 rfl
   clear hra
   go_wp2_with fail
   refine (HPA.out w3 (Za HB1.out HB3.out) HOK.out).mono ?_
   rintro e w4 ⟨rfl,hb4,N0,R0,hmn,hmr,hen,her⟩
   have HB4:=Zb (Za HB3.out hb4)
   have HPT:=Zb (And.intro (And.intro hmn hmr) (And.intro hen her))
   have hs34:W1.heap.size≤w3.heap.size:=HB3.out.size
   have hsw:w.heap.size≤W1.heap.size:=HB1.out.size
   have hs4:w3.heap.size+3<w4.heap.size:=hmr.lt
   clear a0 a1 a2 a3 hmn hmr hen her hb4
   obtain ⟨pn,hpn⟩:∃ x,w3.heap.size+2=x:=⟨_,rfl⟩
   rw [hpn] at HPT ⊢
   go_upto_region 4 with fail
   generalize hW5:World.alloc _ _=W5
   have hb5:Below w4.heap.size w4 W5:=by rw [← hW5];exact (Below.refl _ _).alloc (Nat.le_refl _) _
   have hr5:=Zl w4 #[.map (some pn),.map (some (pn+1)),.int .i64 nn,.int .i64 nr] 71
   rw [hW5] at hr5
   have HB5:=Zb (Za HB4.out hb5)
   have HP5:Hid (Zas W1.heap.size ⟨w4.heap.size,pn,pn+1,0,0⟩ g N0 R0 W5):=by
    obtain ⟨⟨h1,h2⟩,h3,h4⟩:=HPT.out
    refine ⟨⟨?_,?_,?_,?_,?_,?_⟩,?_,h1.below hb5 (Nat.le_refl _),h2.below hb5 (Nat.le_refl _),?_,?_⟩
    ·show w4.heap.size≠pn;omega
    ·show w4.heap.size≠pn+1;omega
    ·show pn≠pn+1;omega
    ·show _≤w4.heap.size;omega
    ·show _≤pn;omega
    ·show _≤pn+1;omega
    ·rw [HNN.out,HNR.out];exact hr5
    ·exact (Zpx h3 (HRI.out HOK.out).1).turn fun v x q=>(q.below (hb5.mono (by omega))).mono hsw
    ·exact (Zpx h4 (HRI.out HOK.out).2).turn fun v x q=>(q.below (hb5.mono (by omega))).mono hsw
   obtain ⟨Y,hY⟩:∃ Y,w4.heap.size=Y:=⟨_,rfl⟩
   rw [hY] at HP5 ⊢
   clear hW5 hb5 hr5 HPT HPA HB3 HB4 hY
   go_wp2_with fail
   go_loopw [23] (fun i wr=>∃ (j:Nat) (N R:List (Int × Value)),j≤cs.length∧i=.int .i64 j∧Below W1.heap.size W1 wr∧Zas W1.heap.size ⟨Y,pn,pn+1,0,0⟩ ((cs.take j).foldl doC g) N R wr) (fun i _=>cs.length - (intOf i).toNat)
   case atStart=>exact ⟨0,N0,R0,Nat.zero_le _,rfl,HB5.out,HP5.out⟩
   case round =>
    obtain ⟨j,N,R,hj,rfl,hbr,hpr⟩:=hrel
    have HBR:=Zb hbr
    have HPR:=Zb hpr
    clear hbr hpr HP5 HB5
    by_cases hlt:j<cs.length
    ·obtain ⟨c,hx⟩:∃ q,cs[j]?=some q:=⟨_,List.getElem?_eq_getElem hlt⟩
     have HX:=Zb hx
     obtain ⟨bl,off,la,lc,pa,pc,qa,qc,rfl,hl,⟨c0,c1,c2,c3,c4,c5,c6,c7,c8,c9,c10⟩,h1,h2,h3⟩:=HCL.out wr (Za HB1.out HBR.out) j c hx
     have HL1:=Zb h1
     have HL2:=Zb h2
     have HL3:=Zb h3
     have hcx:=HCF.out c (List.mem_of_getElem? hx)
     have HCX:=Zb hcx
     have HKD:Hid (0≤c.kind∧c.kind≤4):=by
      have h4:=List.any_eq_false.1 HNK.out c (List.mem_of_getElem? hx)
      unfold Zaz at h4
      simp only [Bool.or_eq_true,decide_eq_true_eq,not_or] at h4
      show _∧_
      omega
     clear hx h1 h2 h3 hcx
     go_upto_region 7 with fail
     generalize hW6:World.alloc _ _=W6
     have hb6:Below wr.heap.size wr W6:=by rw [← hW6];exact (Below.refl _ _).alloc (Nat.le_refl _) _
     have hr6:=Zl wr #[.int .i64 c.kind,.int .i64 c.id,.int .i64 c.other,.int .i64 c.node.id,.slice la c.node.labels.length lc,.slice pa c.node.props.length pc,.int .i64 c.rel.id,.int .i64 c.rel.fr,.int .i64 c.rel.tt,.string c.rel.type,.slice qa c.rel.props.length qc] 51
     rw [hW6] at hr6
     have hwr:W1.heap.size≤wr.heap.size:=HBR.out.size
     have HCH:=Zb (Zql c HKD.out _ _ W1.heap.size (.agg #[.int .i64 c.kind,.int .i64 c.id,.int .i64 c.other,.int .i64 c.node.id,.slice la c.node.labels.length lc,.slice pa c.node.props.length pc,.int .i64 c.rel.id,.int .i64 c.rel.fr,.int .i64 c.rel.tt,.string c.rel.type,.slice qa c.rel.props.length qc]) W6 N R (HPR.out.below hb6 hwr) (by have:=hb6.size;omega) ⟨la,lc,pa,pc,qa,qc,rfl,(HL1.out.below (hb6.mono (by omega))).mono hsw,(HL2.out.below (hb6.mono (by omega))).mono hsw,HL3.out⟩ ⟨Zhn HCX.out.i.1 HCX.out.i.2,HCX.out.n.1,HCX.out.r.1.1⟩)
     have HB6:=Zb (Za HBR.out hb6)
     have e0:=hr6.cell 0 rfl
     have e1:=hr6.cell 1 rfl
     have e2:=hr6.cell 2 rfl
     have e3:=hr6.cell 3 rfl
     have e4:=hr6.cell 4 rfl
     have e5:=hr6.cell 5 rfl
     have e6:=hr6.cell 6 rfl
     have e7:=hr6.cell 7 rfl
     have e8:=hr6.cell 8 rfl
     have e9:=hr6.cell 9 rfl
     have e10:=hr6.cell 10 rfl
     clear hW6 hr6 hb6 c0 c1 c2 c3 c4 c5 c6 c7 c8 c9 c10
     go_wp2_with fail
     refine HCH.out.mono ?_
     rintro e w7 ⟨rfl,hb7,N',R',hp7⟩
     have HB7:=Zb (HB6.out.trans hb7)
     have HP7:Hid (Zas W1.heap.size ⟨Y,pn,pn+1,0,0⟩ ((cs.take (j+1)).foldl doC g) N' R' w7):=by rw [Jz g HX.out];exact hp7
     clear hb7 hp7 HCH e0 e1 e2 e3 e4 e5 e6 e7 e8 e9 e10
     go_wp2_with fail
     go_roundw
     case rel=>exact ⟨j+1,N',R',by omega,by go_num,HB7.out,HP7.out⟩
     case measure=>simp [intOf];omega
    ·obtain rfl:j=cs.length:=by omega
     rw [List.take_length] at HPR
     generalize hh:cs.foldl doC g=h at HPR HFH HGF HZR
     have hln:=HPR.out.mn.len
     have hrn:=HPR.out.mr.len
     have hg1:=HGF.out.nl
     have hg2:=HGF.out.rl
     have HSZ:=Zb (fun W (hb:Below wr.heap.size wr W)=>Zor ((HPR.out.below hb HBR.out.size).ps) (by omega))
     have hgt:¬ ((N.length:Int)+(R.length:Int)>65536):=by omega
     have HTY:Hid (∀ r ∈ h.rels,r.type.size≤maxLen):=fun r hr=>by have:=(HGF.out.r r hr).2.1;unfold maxLen;omega
     have HTL:=Zb (fun W (hb:Below wr.heap.size wr W)=>Zp0 ((HPR.out.below hb HBR.out.size).ps) W1.heap.size (by have:=hb.size;have:=HBR.out.size;omega) h.nodes h.rels (Zvd (HPR.out.below hb HBR.out.size).mn (HPR.out.below hb HBR.out.size).mr (by omega) (by omega) HTY.out))
     have HHH:=Zb hh
     clear hln hrn hg1 hg2 hh
     go_wp2_with fail
     refine (HSZ.out wr (Below.refl _ _)).mono ?_
     rintro e w8 ⟨rfl,hb8⟩
     have HB8:=Zb hb8
     clear hb8 HSZ
     go_wp2_with fail
     refine (HTL.out w8 HB8.out).mono ?_
     rintro e w9 ⟨v9,rfl,hg9,hb9⟩
     have HB9:=Zb (Za HB8.out hb9)
     have HG9:Hid (Zq w9.heap.size w9 v9 h):=hg9
     replace hg9:Zq w9.heap.size w9 v9 h:=hg9
     obtain ⟨na9,nc9,ra9,rc9,rfl,_,_⟩:=hg9
     clear hb9 HTL
     generalize hcl9:h.nodes.length=cl9 at HG9 ⊢
     generalize hdl9:h.rels.length=dl9 at HG9 ⊢
     generalize hcn9:h.nn=cn9 at HG9 ⊢
     generalize hcr9:h.nr=cr9 at HG9 ⊢
     clear hcl9 hdl9 hcn9 hcr9
     go_upto_region 12 with fail
     generalize hW10:World.alloc _ _=W10
     have hb10:Below w9.heap.size w9 W10:=by rw [← hW10];exact (Below.refl _ _).alloc (Nat.le_refl _) _
     have hr10:=Zl w9 #[.slice na9 cl9 nc9,.slice ra9 dl9 rc9,.int .i64 cn9,.int .i64 cr9] 25
     rw [hW10] at hr10
     have HR10:=Zb hr10
     have HB10:=Zb (Za HBR.out (Za HB9.out hb10))
     have HG10:=Zb ((HG9.out.below hb10).mono hb10.size)
     obtain ⟨M,hM⟩:∃ M,w9.heap.size=M:=⟨_,rfl⟩
     rw [hM] at HR10 ⊢
     clear hW10 hb10 hr10 HG9 HB9 HB8 hM
     have HCK:=Zb (Zga h W10.heap.size _ W10 (Nat.le_refl _) (HE.out W10 (Za HB1.out HB10.out)) HG10.out HFH.out.mild HFH.out.nn HFH.out.nr HFH.out.ends)
     obtain ⟨kh,hkh⟩:∃ b,Zaj h=b:=⟨_,rfl⟩
     rw [hkh] at HCK HZR
     have HKH:=Zb hkh
     have m0:=HR10.out.cell 0 rfl
     have m1:=HR10.out.cell 1 rfl
     have m2:=HR10.out.cell 2 rfl
     have m3:=HR10.out.cell 3 rfl
     clear hkh
     go_wp2_with fail
     refine HCK.out.mono ?_
     rintro e w11 ⟨rfl,hb11⟩
     have HB11:=Zb (Za HB10.out hb11)
     have HR11:=Zb (HR10.out.below hb11 HR10.out.lt)
     have HG11:=Zb ((HG10.out.below hb11).mono hb11.size)
     have HZ11:=Zb (HR2.out.below HB11.out HR2.out.lt)
     have HW11:=Zb (Za HB1.out HB11.out)
     clear hb11 m0 m1 m2 m3 HCK
     cases kh with
     | false =>
      replace HZR:=Zb (HZR.out (.inr (.inr rfl)))
      have y0:=HZ11.out.cell 0 rfl
      have y1:=HZ11.out.cell 1 rfl
      have y2:=HZ11.out.cell 2 rfl
      have y3:=HZ11.out.cell 3 rfl
      have s0:=HZ11.out.z 0
      have s1:=HZ11.out.z 1
      have s2:=HZ11.out.z 2
      have s3:=HZ11.out.z 3
      go_wp2_with fail
      generalize hWz:World.setCell _ _ _=Wz
      have HRz:Hid (Rec Wz (w.heap.size+1) #[.slice none 0 0,.slice none 0 0,.int .i64 0,.int .i64 0] 25):=by rw [← hWz];exact (((HZ11.out.set 0 _).set 1 _).set 2 _).set 3 _
      have HBz:Hid (Below w.heap.size w Wz):=by rw [← hWz];exact (((HW11.out.setCell (p:=⟨w.heap.size+1,_,none⟩) (Nat.le_succ _) _).setCell (p:=⟨w.heap.size+1,_,none⟩) (Nat.le_succ _) _).setCell (p:=⟨w.heap.size+1,_,none⟩) (Nat.le_succ _) _).setCell (p:=⟨w.heap.size+1,_,none⟩) (Nat.le_succ _) _
      clear hWz y0 y1 y2 y3 s0 s1 s2 s3
      have q0:=HRz.out.cell 0 rfl
      have q1:=HRz.out.cell 1 rfl
      have q2:=HRz.out.cell 2 rfl
      have q3:=HRz.out.cell 3 rfl
      refine bodyPost_ret (v:=.tuple #[.agg #[.slice none 0 0,.slice none 0 0,.int .i64 0,.int .i64 0],.int .i64 2]) ?_ rfl ⟨_,_,rfl,HZR.out _ _,HBz.out⟩
      simp [results,Tryz.results21,go_sem,q0,q1,q2,q3]
     | true =>
      have HAP:Hid (Zbb g cs=(h,0)):=by
       show Zbb g cs=(h,0)
       unfold Zbb
       rw [HHH.out,if_pos ⟨HOK.out,HNK.out,HKH.out⟩]
      have HCP:=Zb (Zfp h _ w11.heap.size w11 (Nat.le_refl _) HG11.out HFH.out.mild.nodes HFH.out.mild.rels HFH.out.ofN HFH.out.ofR)
      have m0:=HR11.out.cell 0 rfl
      have m1:=HR11.out.cell 1 rfl
      have m2:=HR11.out.cell 2 rfl
      have m3:=HR11.out.cell 3 rfl
      go_wp2_with fail
      refine HCP.out.mono ?_
      rintro e w12 ⟨v12,rfl,hf12,hb12⟩
      have HB12:=Zb (Za HW11.out hb12)
      have HZ12:=Zb (HZ11.out.below hb12 HZ11.out.lt)
      have HF12:=Zb hf12
      have hs12:w.heap.size+1<w11.heap.size:=HZ11.out.lt
      obtain ⟨nv,rv,rfl,hq1,hq2⟩:=hf12
      obtain ⟨na4,nc4,rfl,_⟩:=hq1
      obtain ⟨ra4,rc4,rfl,_⟩:=hq2
      clear hb12 m0 m1 m2 m3 HCP
      have y0:=HZ12.out.cell 0 rfl
      have y1:=HZ12.out.cell 1 rfl
      have y2:=HZ12.out.cell 2 rfl
      have y3:=HZ12.out.cell 3 rfl
      have s0:=HZ12.out.z 0
      have s1:=HZ12.out.z 1
      have s2:=HZ12.out.z 2
      have s3:=HZ12.out.z 3
      go_wp2_with fail
      generalize hWz:World.setCell _ _ _=Wz
      have HRz:Hid (Rec Wz (w.heap.size+1) #[.slice na4 h.nodes.length nc4,.slice ra4 h.rels.length rc4,.int .i64 h.nn,.int .i64 h.nr] 25):=by rw [← hWz];exact (((HZ12.out.set 0 _).set 1 _).set 2 _).set 3 _
      have HBz:Hid (Below w.heap.size w Wz):=by rw [← hWz];exact (((HB12.out.setCell (p:=⟨w.heap.size+1,_,none⟩) (Nat.le_succ _) _).setCell (p:=⟨w.heap.size+1,_,none⟩) (Nat.le_succ _) _).setCell (p:=⟨w.heap.size+1,_,none⟩) (Nat.le_succ _) _).setCell (p:=⟨w.heap.size+1,_,none⟩) (Nat.le_succ _) _
      have hsz:Wz.heap.size=w12.heap.size:=by rw [← hWz];simp
      have HHz:Hid (∀ b,w.heap.size+1≠b→Wz.heap[b]?=w12.heap[b]?):=fun b hb=>by
       rw [← hWz]
       repeat rw [Below.heap_setCell _ _ _ _ (Ne.symm hb)]
      have HGz:Hid (Zq Wz.heap.size Wz (.agg #[.slice na4 h.nodes.length nc4,.slice ra4 h.rels.length rc4,.int .i64 h.nn,.int .i64 h.nr]) h):=by
       have:=(Zcy.keep (w':=Wz) (fun b o h1 h2=>⟨World.cell?_of_block (HHz.out b (by omega)),by unfold World.frozen?;rw [HHz.out b (by omega)]⟩) HF12.out).lie HTY.out
       rwa [hsz]
      clear hWz y0 y1 y2 y3 s0 s1 s2 s3
      have q0:=HRz.out.cell 0 rfl
      have q1:=HRz.out.cell 1 rfl
      have q2:=HRz.out.cell 2 rfl
      have q3:=HRz.out.cell 3 rfl
      refine bodyPost_ret (v:=.tuple #[.agg #[.slice na4 h.nodes.length nc4,.slice ra4 h.rels.length rc4,.int .i64 h.nn,.int .i64 h.nr],.int .i64 0]) ?_ rfl ⟨_,_,rfl,⟨by rw [HAP.out];exact HGz.out,by rw [HAP.out]⟩,HBz.out⟩
      simp [results,Tryz.results21,go_sem,q0,q1,q2,q3]
end
section
open Go.RowKit Go.Shelf
set_option linter.all false
attribute [local go_sem] Oper.semAt_some
theorem Zeg.keep {α:Type} {k:Nat} {L:Value→α→Prop} {Q:Nat→Prop} {w w':World} {v:Value} {xs:List α} (h:Zeg k L Q w v xs) (hk:∀ bl,Q bl→bl<w.heap.size→w'.heap[bl]?=w.heap[bl]?) (hs:w.heap.size≤w'.heap.size):Zeg k L Q w' v xs:=by
 obtain ⟨a,c,css,e,h1,h2,h3,h4,h5⟩:=h
 exact ⟨a,c,css,e,h1,h2,h3,h4,h5.imp id fun ⟨bl,off,q1,q2,q3,q4⟩=>⟨bl,off,q1,by omega,q3,q4.1,fun i x cs hx hcs=>by
  obtain ⟨p1,p2,p3,p4⟩:=q4.2 i x cs hx hcs
  exact ⟨p1,p2,fun q v hq=>(World.cell?_of_block (hk bl q3 q2)).trans (p3 q v hq),p4⟩⟩⟩
theorem Zeg.weak {α:Type} {k:Nat} {L:Value→α→Prop} {Q Q':Nat→Prop} {w:World} {v:Value} {xs:List α} (h:Zeg k L Q w v xs) (hq:∀ bl,Q bl→Q' bl):Zeg k L Q' w v xs:=by
 obtain ⟨a,c,css,e,h1,h2,h3,h4,h5⟩:=h
 exact ⟨a,c,css,e,h1,h2,h3,h4,h5.imp id fun ⟨bl,off,q1,q2,q3,q4⟩=>⟨bl,off,q1,q2,hq bl q3,q4⟩⟩
theorem Zjh {B:Nat} {Q:Nat→Prop} {w w':World} {v:Value} {ns:List Zp} (h:Zeg 3 (Zv B w) Q w' v ns) (hb:Below B w w') (hB:B≤w'.heap.size):Zax w'.heap.size w' v ns:=by
 obtain ⟨a,c,css,e,h1,h2,h3,h4,h5⟩:=h
 refine ⟨a,c,e,h1,h2,h5.imp id fun ⟨bl,off,q1,q2,q3,q4⟩=>⟨bl,off,q1,q2,fun i n hi=>?_⟩⟩
 obtain ⟨cs,hcs,_,la,lc,pa,pc,e1,hs,hk,hp⟩:=h3.2 i n hi
 have hcc:=(q4.2 i n cs hi hcs).2.2.1
 have e2:cs=[.int .i64 n.id,.slice la n.labels.length lc,.slice pa n.props.length pc]:=by
  simpa using congrArg Array.toList (Value.agg.inj e1)
 subst e2
 exact ⟨la,lc,_,⟨hcc 0 _ rfl,hcc 1 _ rfl,hcc 2 _ rfl⟩,hs,(hk.below hb).mono hB,(Jh.below hb hp).mono hB⟩
theorem Zl4 {B:Nat} {Q:Nat→Prop} {w w':World} {v:Value} {ns:List Jj} (h:Zeg 5 (Jc B w) Q w' v ns) (hb:Below B w w') (hB:B≤w'.heap.size) (ht:∀ r ∈ ns,r.type.size≤maxLen):Zbe w'.heap.size w' v ns:=by
 obtain ⟨a,c,css,e,h1,h2,h3,h4,h5⟩:=h
 refine ⟨a,c,e,h1,h2,h5.imp id fun ⟨bl,off,q1,q2,q3,q4⟩=>⟨bl,off,q1,q2,fun i n hi=>?_⟩⟩
 obtain ⟨cs,hcs,_,pa,pc,e1,hp⟩:=h3.2 i n hi
 have hcc:=(q4.2 i n cs hi hcs).2.2.1
 have e2:cs=[.int .i64 n.id,.int .i64 n.fr,.int .i64 n.tt,.string n.type,.slice pa n.props.length pc]:=by
  simpa using congrArg Array.toList (Value.agg.inj e1)
 subst e2
 exact ⟨_,⟨hcc 0 _ rfl,hcc 1 _ rfl,hcc 2 _ rfl,hcc 3 _ rfl,hcc 4 _ rfl⟩,ht n (List.mem_of_getElem? hi),(Jh.below hb hp).mono hB⟩
def Zz7 (g:Zy) (cs:List Ji) (w:World) (A j:Nat) (W:World):Prop :=
 Below w.heap.size w W∧Rec W (A+1) #[.slice none 0 0,.slice none 0 0,.int .i64 0,.int .i64 0] 25∧(cs.take j).any Zaz=false∧∃ nv rv,Rec W A #[nv,rv,.int .i64 ((cs.take j).foldl doC g).nn,.int .i64 ((cs.take j).foldl doC g).nr] 25∧Zeg 3 (Zv w.heap.size w) (fun bl=>bl<A∨A+1<bl) W nv ((cs.take j).foldl doC g).nodes∧Zeg 5 (Jc w.heap.size w) (fun bl=>bl<A∨A+1<bl) W rv ((cs.take j).foldl doC g).rels
set_option maxRecDepth 100000 in
set_option maxHeartbeats 16000000 in
theorem Zq1 (g:Zy) (cs:List Ji) (v:Value) (a:Option Addr) (cap:Nat) (w:World) (hg:Zq w.heap.size w v g) (hc:Za0 w.heap.size w a cs) (hcap:cs.length≤cap) (hcap2:cap≤9223372036854775807) (hf:GF 60 g) (hcf:∀ c ∈ cs,CF c) (hcl:cs.length≤20) :
  Calls Tryz.prog 24 #[v,.slice a cs.length cap] w fun e w'=>∃ v' er,e=.returned (.tuple #[v',.int .i64 er])∧(Zq w'.heap.size w' v' (Zbb g cs).1∧er=(Zbb g cs).2)∧Below w.heap.size w w':=by
 have fg:=hf.fit (by omega)
 have HRC:=Zb (fun W (hb:Below w.heap.size w W)=>Zid g w.heap.size v W hb.size (hg.below hb) fg.sized)
 have HCL:=Zb (fun W (hb:Below w.heap.size w W)=>hc.below hb)
 have HC0:=Zb hc
 have HGS:Hid (∀ j,j≤cs.length→GF (60+j) ((cs.take j).foldl doC g)):=fun j hj=>by
  have:=hf.steps (cs.take j) fun c h=>hcf c (List.mem_of_mem_take h)
  rwa [List.length_take,Nat.min_eq_left hj] at this
 have HCF:=Zb hcf
 obtain ⟨ok,hok⟩:∃ b,Zaj g=b:=⟨_,rfl⟩
 have HOK:=Zb hok
 have HZR:Hid ((ok=false∨cs.any Zaz=true∨Zaj (cs.foldl doC g)=false)→∀ (B:Nat) (W:World),Zq B W (.agg #[.slice none 0 0,.slice none 0 0,.int .i64 0,.int .i64 0]) (Zbb g cs).1∧(2:Int)=(Zbb g cs).2):=fun hh B W=>by
  have:Zbb g cs=(Zw5,2):=by
   unfold Zbb
   rw [if_neg]
   rintro ⟨h1,h2,h3⟩
   rw [hok] at h1
   rcases hh with e | e | e
   ·rw [e] at h1;cases h1
   ·rw [e] at h2;cases h2
   ·rw [e] at h3;cases h3
  rw [this]
  exact ⟨Zl1 _ _,rfl⟩
 have hok2:=hok
 rw [Zi8] at hok2
 rw [hok2] at HRC
 have HGL:=Zb hg
 obtain ⟨na0,nc0,ra0,rc0,rfl,hq1,hq2⟩:=hg
 have HQ1:=Zb hq1
 have HQ2:=Zb hq2
 clear hq1 hq2 hok hok2 fg hc hcf hf
 generalize hnl:g.nodes.length=nl0 at HRC HGL HQ1 ⊢
 generalize hrl:g.rels.length=rl0 at HRC HGL HQ2 ⊢
 generalize hnn:g.nn=nn0 at HRC HGL ⊢
 generalize hnr:g.nr=nr0 at HRC HGL ⊢
 have HNN:=Zb hnn
 have HNR:=Zb hnr
 clear hnl hrl hnn hnr
 go_enter Tryz.func24,Tryz.ntmps24
 go_upto_region 1 with fail
 generalize hW1:World.alloc _ _=W1
 have HB1:Hid (Below w.heap.size w W1):=by rw [← hW1];exact ((Below.refl _ _).alloc (Nat.le_refl _) _).alloc (by simp) _
 have hr1:=(Zl w #[.slice na0 nl0 nc0,.slice ra0 rl0 rc0,.int .i64 nn0,.int .i64 nr0] 25).alloc (.cells #[.slice none 0 0,.slice none 0 0,.int .i64 0,.int .i64 0] 25)
 have hr2:=Zl (w.alloc (.cells #[.slice na0 nl0 nc0,.slice ra0 rl0 rc0,.int .i64 nn0,.int .i64 nr0] 25)) #[.slice none 0 0,.slice none 0 0,.int .i64 0,.int .i64 0] 25
 rw [hW1] at hr1 hr2
 rw [World.size_alloc] at hr2
 obtain ⟨A,hA⟩:∃ A,w.heap.size=A:=⟨_,rfl⟩
 have HRW:Hid (Zeg 3 (Zv w.heap.size w) (fun bl=>bl<A∨A+1<bl) W1 (.slice na0 nl0 nc0) g.nodes∧Zeg 5 (Jc w.heap.size w) (fun bl=>bl<A∨A+1<bl) W1 (.slice ra0 rl0 rc0) g.rels) :=
  ⟨((Jev HQ1.out (Nat.le_refl _)).keep (fun bl q _=>HB1.out.block bl q) HB1.out.size).weak fun bl q=>.inl (by omega),((Jex HQ2.out (Nat.le_refl _)).keep (fun bl q _=>HB1.out.block bl q) HB1.out.size).weak fun bl q=>.inl (by omega)⟩
 rw [hA] at hr1 hr2
 have HR1:=Zb hr1
 have HR2:=Zb hr2
 have a0:=hr1.cell 0 rfl
 have a1:=hr1.cell 1 rfl
 have a2:=hr1.cell 2 rfl
 have a3:=hr1.cell 3 rfl
 have hAS:A+1<W1.heap.size:=hr2.lt
 rw [show w.heap.size=A from hA]
 clear hW1 hr1 hr2
 go_wp2_with fail
 refine (HRC.out W1 HB1.out).mono ?_
 rintro e w2 ⟨rfl,hb2⟩
 have HB2:=Zb (Za HB1.out hb2)
 have HX2:=Zb (HR1.out.below hb2 HR1.out.lt)
 have HZ2:=Zb (HR2.out.below hb2 HR2.out.lt)
 have HN2:=Zb (HRW.out.1.keep (fun bl _ hl=>hb2.block bl hl) hb2.size)
 have HRR2:=Zb (HRW.out.2.keep (fun bl _ hl=>hb2.block bl hl) hb2.size)
 clear hb2 a0 a1 a2 a3
 cases ok with
 | false =>
  replace HZR:=Zb (HZR.out (.inl rfl))
  have y0:=HZ2.out.cell 0 rfl
  have y1:=HZ2.out.cell 1 rfl
  have y2:=HZ2.out.cell 2 rfl
  have y3:=HZ2.out.cell 3 rfl
  have s0:=HZ2.out.z 0
  have s1:=HZ2.out.z 1
  have s2:=HZ2.out.z 2
  have s3:=HZ2.out.z 3
  go_wp2_with fail
  generalize hWz:World.setCell _ _ _=Wz
  have HRz:Hid (Rec Wz (A+1) #[.slice none 0 0,.slice none 0 0,.int .i64 0,.int .i64 0] 25):=by rw [← hWz];exact (((HZ2.out.set 0 _).set 1 _).set 2 _).set 3 _
  have HBz:Hid (Below w.heap.size w Wz):=by rw [← hWz];exact (((HB2.out.setCell (p:=⟨A+1,_,none⟩) (by show w.heap.size≤A+1;omega) _).setCell (p:=⟨A+1,_,none⟩) (by show w.heap.size≤A+1;omega) _).setCell (p:=⟨A+1,_,none⟩) (by show w.heap.size≤A+1;omega) _).setCell (p:=⟨A+1,_,none⟩) (by show w.heap.size≤A+1;omega) _
  clear hWz y0 y1 y2 y3 s0 s1 s2 s3
  have q0:=HRz.out.cell 0 rfl
  have q1:=HRz.out.cell 1 rfl
  have q2:=HRz.out.cell 2 rfl
  have q3:=HRz.out.cell 3 rfl
  refine bodyPost_ret (v:=.tuple #[.agg #[.slice none 0 0,.slice none 0 0,.int .i64 0,.int .i64 0],.int .i64 2]) ?_ rfl ⟨_,_,rfl,HZR.out _ _,by first | exact HBz.out | exact hA▸HBz.out⟩
  simp [results,Tryz.results24,go_sem,q0,q1,q2,q3]
 | true =>
  have HJ2:Hid (Zz7 g cs w A 0 w2):=⟨HB2.out,HZ2.out,rfl,_,_,by rw [List.take_zero,List.foldl_nil,HNN.out,HNR.out];exact HX2.out,HN2.out,HRR2.out⟩
  clear HX2 HZ2 HN2 HRR2 HB2 HR1 HR2 HRW
  go_wp2_with fail
  go_loopw [6] (fun i wr=>∃ j:Nat,j≤cs.length∧i=.int .i64 j∧Zz7 g cs w A j wr) (fun i _=>cs.length - (intOf i).toNat)
  case atStart=>exact ⟨0,Nat.zero_le _,rfl,HJ2.out⟩
  case round =>
   obtain ⟨j,hj,rfl,hbr,hzr,hany,nv,rv,hxr,hnr,hrr⟩:=hrel
   clear HJ2
   have HGF:=Zb (HGS.out j hj)
   have HBR:=Zb hbr
   have HZR0:=Zb hzr
   have HANY:=Zb hany
   have HXR:=Zb hxr
   have HNR0:=Zb hnr
   have HRR0:=Zb hrr
   obtain ⟨na,nc,_,env,_⟩:=hnr
   obtain ⟨ra,rc,_,erv,_⟩:=hrr
   subst env erv
   clear hbr hzr hany hxr
   by_cases hlt:j<cs.length
   ·obtain ⟨c,hx⟩:∃ q,cs[j]?=some q:=⟨_,List.getElem?_eq_getElem hlt⟩
    have HX:=Zb hx
    obtain ⟨bl,off,la,lc,pa,pc,qa,qc,rfl,hl,⟨d0,d1,d2,d3,d4,d5,d6,d7,d8,d9,d10⟩,h1,h2,h3⟩:=HC0.out j c hx
    have kk:∀ o,wr.cell? ⟨bl,o,none⟩=w.cell? ⟨bl,o,none⟩:=fun o=>HBR.out.cell (p:=⟨bl,o,none⟩) hl
    have c0:=(kk _).trans d0
    have c1:=(kk _).trans d1
    have c2:=(kk _).trans d2
    have c3:=(kk _).trans d3
    have c4:=(kk _).trans d4
    have c5:=(kk _).trans d5
    have c6:=(kk _).trans d6
    have c7:=(kk _).trans d7
    have c8:=(kk _).trans d8
    have c9:=(kk _).trans d9
    have c10:=(kk _).trans d10
    have HL1:=Zb h1
    have HL2:=Zb h2
    clear hx h1 h2 h3 kk d0 d1 d2 d3 d4 d5 d6 d7 d8 d9 d10
    obtain ⟨kd,hkd⟩:∃ k,c.kind=k:=⟨_,rfl⟩
    rw [hkd] at c0
    have HKK:=Zb hkd
    generalize hnl:List.length (Zy.nodes _)=nl at HXR HNR0
    generalize hrl:List.length (Zy.rels _)=rl at HXR HRR0
    clear hkd hnl hrl
    go_upto_region 7 with fail
    generalize hW6:World.alloc _ _=W6
    have hb6:Below wr.heap.size wr W6:=by rw [← hW6];exact (Below.refl _ _).alloc (Nat.le_refl _) _
    have hr6:=Zl wr #[.int .i64 kd,.int .i64 c.id,.int .i64 c.other,.int .i64 c.node.id,.slice la c.node.labels.length lc,.slice pa c.node.props.length pc,.int .i64 c.rel.id,.int .i64 c.rel.fr,.int .i64 c.rel.tt,.string c.rel.type,.slice qa c.rel.props.length qc] 51
    rw [hW6] at hr6
    have hx6:=HXR.out.below hb6 HXR.out.lt
    have HZ6:=Zb (HZR0.out.below hb6 HZR0.out.lt)
    have HN6:=Zb (HNR0.out.keep (fun bl _ hl=>hb6.block bl hl) hb6.size)
    have HR6:=Zb (HRR0.out.keep (fun bl _ hl=>hb6.block bl hl) hb6.size)
    have HB6:=Zb (Za HBR.out hb6)
    have hA6:A+1<wr.heap.size:=HZR0.out.lt
    have hsz6:=hb6.size
    have e0:=hr6.cell 0 rfl
    clear hW6 hb6 c0 c1 c2 c3 c4 c5 c6 c7 c8 c9 c10 HXR HNR0 HRR0 HZR0 HBR
    have HANK:Hid (Zaz c=false→(cs.take (j+1)).any Zaz=false):=fun hk=>by
     rw [List.take_add_one,HX.out,List.any_append,HANY.out]
     simp [hk]
    by_cases k0:kd=0
    ·subst k0
     have HKD:Hid (c.kind=0):=HKK.out
     have HAN:=Zb (HANK.out (by unfold Zaz;rw [HKD.out];rfl))
     have HCA:=Zb (Jew _ c.node w.heap.size w _ _ _ W6 (HN6.out) HL1.out (by have:=HGF.out.nl;omega))
     have e3:=hr6.cell 3 rfl
     have e4:=hr6.cell 4 rfl
     have e5:=hr6.cell 5 rfl
     have b0:=hx6.cell 0 rfl
     have HX6:=Zb hx6
     clear hr6 hx6
     go_wp2_with fail
     refine HCA.out.mono ?_
     rintro e w7 ⟨v7,rfl,hv7,hb7⟩
     have HV7:=Zb hv7
     have HX7:=Zb (HX6.out.below hb7 HX6.out.lt)
     have HZ7:=Zb (HZ6.out.below hb7 HZ6.out.lt)
     have HO7:Hid (Zeg 5 (Jc w.heap.size w) (fun bl=>bl<A∨A+1<bl) w7 (.slice ra rl rc) _):=HR6.out.keep (fun bl _ hl=>hb7.block bl hl) hb7.size
     have HB7:=Zb (Za HB6.out hb7)
     have hsz7:=hb7.size
     obtain ⟨a7,c7,_,hv7e,_⟩:=hv7
     subst hv7e
     clear hb7 HCA e3 e4 e5 b0
     have b0:=HX7.out.cell 0 rfl
     have s0:=HX7.out.z 0
     go_upto_region 5 with fail
     generalize hW8:World.setCell _ _ _=W8
     have HX8:=Zb (HX7.out.set 0 (.slice a7 (List.length (Zcf Zp.id c.node ((cs.take j).foldl doC g).nodes)) c7))
     rw [hW8] at HX8
     have HH8:Hid (∀ b,b≠A→W8.heap[b]?=w7.heap[b]?):=fun b hb=>by rw [← hW8,Below.heap_setCell _ _ _ _ hb]
     have hsz8:W8.heap.size=w7.heap.size:=by rw [← hW8];simp
     have HB8:Hid (Below w.heap.size w W8):=by rw [← hW8];exact HB7.out.setCell (p:=⟨A,_,none⟩) (by show w.heap.size≤A;omega) _
     have HZ8:=Zb (HZ7.out.keep (HH8.out (A+1) (by omega)))
     have HJ8:Hid (Zz7 g cs w A (j+1) W8):=by
      refine ⟨HB8.out,HZ8.out,HAN.out,.slice a7 (List.length (Zcf Zp.id c.node ((cs.take j).foldl doC g).nodes)) c7,.slice ra rl rc,?_,?_,?_⟩
      ·rw [Jz g HX.out,Zwd HKD.out]
       exact HX8.out
      ·rw [Jz g HX.out,Zwd HKD.out]
       exact (HV7.out.keep (fun bl q hl=>HH8.out bl (by omega)) (by omega)).weak fun bl q=>.inr (by omega)
      ·rw [Jz g HX.out,Zwd HKD.out]
       exact HO7.out.keep (fun bl q hl=>HH8.out bl (by omega)) (by omega)
     clear hW8 b0 s0
     go_wp2_with fail
     go_roundw
     case rel=>exact ⟨j+1,by omega,by go_num,HJ8.out⟩
     case measure=>simp [intOf];omega
    ·by_cases k1:kd=1
     ·subst k1
      have HKD:Hid (c.kind=1):=HKK.out
      have HAN:=Zb (HANK.out (by unfold Zaz;rw [HKD.out];rfl))
      have HCA:=Zb (Jey _ c.rel w.heap.size w _ _ _ W6 (HR6.out) HL2.out (by have:=HGF.out.rl;omega))
      have e6:=hr6.cell 6 rfl
      have e7:=hr6.cell 7 rfl
      have e8:=hr6.cell 8 rfl
      have e9:=hr6.cell 9 rfl
      have e10:=hr6.cell 10 rfl
      have b1:=hx6.cell 1 rfl
      have HX6:=Zb hx6
      clear hr6 hx6
      go_wp2_with fail
      refine HCA.out.mono ?_
      rintro e w7 ⟨v7,rfl,hv7,hb7⟩
      have HV7:=Zb hv7
      have HX7:=Zb (HX6.out.below hb7 HX6.out.lt)
      have HZ7:=Zb (HZ6.out.below hb7 HZ6.out.lt)
      have HO7:Hid (Zeg 3 (Zv w.heap.size w) (fun bl=>bl<A∨A+1<bl) w7 (.slice na nl nc) _):=HN6.out.keep (fun bl _ hl=>hb7.block bl hl) hb7.size
      have HB7:=Zb (Za HB6.out hb7)
      have hsz7:=hb7.size
      obtain ⟨a7,c7,_,hv7e,_⟩:=hv7
      subst hv7e
      clear hb7 HCA e6 e7 e8 e9 e10 b1
      have b1:=HX7.out.cell 1 rfl
      have s1:=HX7.out.z 1
      go_upto_region 5 with fail
      generalize hW8:World.setCell _ _ _=W8
      have HX8:=Zb (HX7.out.set 1 (.slice a7 (List.length (Zcf Jj.id c.rel ((cs.take j).foldl doC g).rels)) c7))
      rw [hW8] at HX8
      have HH8:Hid (∀ b,b≠A→W8.heap[b]?=w7.heap[b]?):=fun b hb=>by rw [← hW8,Below.heap_setCell _ _ _ _ hb]
      have hsz8:W8.heap.size=w7.heap.size:=by rw [← hW8];simp
      have HB8:Hid (Below w.heap.size w W8):=by rw [← hW8];exact HB7.out.setCell (p:=⟨A,_,none⟩) (by show w.heap.size≤A;omega) _
      have HZ8:=Zb (HZ7.out.keep (HH8.out (A+1) (by omega)))
      have HJ8:Hid (Zz7 g cs w A (j+1) W8):=by
       refine ⟨HB8.out,HZ8.out,HAN.out,.slice na nl nc,.slice a7 (List.length (Zcf Jj.id c.rel ((cs.take j).foldl doC g).rels)) c7,?_,?_,?_⟩
       ·rw [Jz g HX.out,Zwe HKD.out]
        exact HX8.out
       ·rw [Jz g HX.out,Zwe HKD.out]
        exact HO7.out.keep (fun bl q hl=>HH8.out bl (by omega)) (by omega)
       ·rw [Jz g HX.out,Zwe HKD.out]
        exact (HV7.out.keep (fun bl q hl=>HH8.out bl (by omega)) (by omega)).weak fun bl q=>.inr (by omega)
      clear hW8 b1 s1
      go_wp2_with fail
      go_roundw
      case rel=>exact ⟨j+1,by omega,by go_num,HJ8.out⟩
      case measure=>simp [intOf];omega
     ·by_cases k2:kd=2
      ·subst k2
       have HKD:Hid (c.kind=2):=HKK.out
       have HAN:=Zb (HANK.out (by unfold Zaz;rw [HKD.out];rfl))
       have HCA:=Zb (Zx5 _ c.id w.heap.size w _ _ W6 (HN6.out) (by have:=HGF.out.nl;omega))
       have e1:=hr6.cell 1 rfl
       have b0:=hx6.cell 0 rfl
       have HX6:=Zb hx6
       clear hr6 hx6
       go_wp2_with fail
       refine HCA.out.mono ?_
       rintro e w7 ⟨v7,rfl,hv7,hb7⟩
       have HV7:=Zb hv7
       have HX7:=Zb (HX6.out.below hb7 HX6.out.lt)
       have HZ7:=Zb (HZ6.out.below hb7 HZ6.out.lt)
       have HO7:Hid (Zeg 5 (Jc w.heap.size w) (fun bl=>bl<A∨A+1<bl) w7 (.slice ra rl rc) _):=HR6.out.keep (fun bl _ hl=>hb7.block bl hl) hb7.size
       have HB7:=Zb (Za HB6.out hb7)
       have hsz7:=hb7.size
       obtain ⟨a7,c7,_,hv7e,_⟩:=hv7
       subst hv7e
       clear hb7 HCA e1 b0
       have b0:=HX7.out.cell 0 rfl
       have s0:=HX7.out.z 0
       go_upto_region 5 with fail
       generalize hW8:World.setCell _ _ _=W8
       have HX8:=Zb (HX7.out.set 0 (.slice a7 (List.length (Zbc Zp.id c.id ((cs.take j).foldl doC g).nodes)) c7))
       rw [hW8] at HX8
       have HH8:Hid (∀ b,b≠A→W8.heap[b]?=w7.heap[b]?):=fun b hb=>by rw [← hW8,Below.heap_setCell _ _ _ _ hb]
       have hsz8:W8.heap.size=w7.heap.size:=by rw [← hW8];simp
       have HB8:Hid (Below w.heap.size w W8):=by rw [← hW8];exact HB7.out.setCell (p:=⟨A,_,none⟩) (by show w.heap.size≤A;omega) _
       have HZ8:=Zb (HZ7.out.keep (HH8.out (A+1) (by omega)))
       have HJ8:Hid (Zz7 g cs w A (j+1) W8):=by
        refine ⟨HB8.out,HZ8.out,HAN.out,.slice a7 (List.length (Zbc Zp.id c.id ((cs.take j).foldl doC g).nodes)) c7,.slice ra rl rc,?_,?_,?_⟩
        ·rw [Jz g HX.out,Zwf HKD.out]
         exact HX8.out
        ·rw [Jz g HX.out,Zwf HKD.out]
         exact (HV7.out.keep (fun bl q hl=>HH8.out bl (by omega)) (by omega)).weak fun bl q=>.inr (by omega)
        ·rw [Jz g HX.out,Zwf HKD.out]
         exact HO7.out.keep (fun bl q hl=>HH8.out bl (by omega)) (by omega)
       clear hW8 b0 s0
       go_wp2_with fail
       go_roundw
       case rel=>exact ⟨j+1,by omega,by go_num,HJ8.out⟩
       case measure=>simp [intOf];omega
      ·by_cases k3:kd=3
       ·subst k3
        have HKD:Hid (c.kind=3):=HKK.out
        have HAN:=Zb (HANK.out (by unfold Zaz;rw [HKD.out];rfl))
        have HCA:=Zb (Zx6 _ c.id w.heap.size w _ _ W6 (HR6.out) (by have:=HGF.out.rl;omega))
        have e1:=hr6.cell 1 rfl
        have b1:=hx6.cell 1 rfl
        have HX6:=Zb hx6
        clear hr6 hx6
        go_wp2_with fail
        refine HCA.out.mono ?_
        rintro e w7 ⟨v7,rfl,hv7,hb7⟩
        have HV7:=Zb hv7
        have HX7:=Zb (HX6.out.below hb7 HX6.out.lt)
        have HZ7:=Zb (HZ6.out.below hb7 HZ6.out.lt)
        have HO7:Hid (Zeg 3 (Zv w.heap.size w) (fun bl=>bl<A∨A+1<bl) w7 (.slice na nl nc) _):=HN6.out.keep (fun bl _ hl=>hb7.block bl hl) hb7.size
        have HB7:=Zb (Za HB6.out hb7)
        have hsz7:=hb7.size
        obtain ⟨a7,c7,_,hv7e,_⟩:=hv7
        subst hv7e
        clear hb7 HCA e1 b1
        have b1:=HX7.out.cell 1 rfl
        have s1:=HX7.out.z 1
        go_upto_region 5 with fail
        generalize hW8:World.setCell _ _ _=W8
        have HX8:=Zb (HX7.out.set 1 (.slice a7 (List.length (Zbc Jj.id c.id ((cs.take j).foldl doC g).rels)) c7))
        rw [hW8] at HX8
        have HH8:Hid (∀ b,b≠A→W8.heap[b]?=w7.heap[b]?):=fun b hb=>by rw [← hW8,Below.heap_setCell _ _ _ _ hb]
        have hsz8:W8.heap.size=w7.heap.size:=by rw [← hW8];simp
        have HB8:Hid (Below w.heap.size w W8):=by rw [← hW8];exact HB7.out.setCell (p:=⟨A,_,none⟩) (by show w.heap.size≤A;omega) _
        have HZ8:=Zb (HZ7.out.keep (HH8.out (A+1) (by omega)))
        have HJ8:Hid (Zz7 g cs w A (j+1) W8):=by
         refine ⟨HB8.out,HZ8.out,HAN.out,.slice na nl nc,.slice a7 (List.length (Zbc Jj.id c.id ((cs.take j).foldl doC g).rels)) c7,?_,?_,?_⟩
         ·rw [Jz g HX.out,Zwg HKD.out]
          exact HX8.out
         ·rw [Jz g HX.out,Zwg HKD.out]
          exact HO7.out.keep (fun bl q hl=>HH8.out bl (by omega)) (by omega)
         ·rw [Jz g HX.out,Zwg HKD.out]
          exact (HV7.out.keep (fun bl q hl=>HH8.out bl (by omega)) (by omega)).weak fun bl q=>.inr (by omega)
        clear hW8 b1 s1
        go_wp2_with fail
        go_roundw
        case rel=>exact ⟨j+1,by omega,by go_num,HJ8.out⟩
        case measure=>simp [intOf];omega
       ·by_cases k4:kd=4
        ·subst k4
         have HKD:Hid (c.kind=4):=HKK.out
         have HAN:=Zb (HANK.out (by unfold Zaz;rw [HKD.out];rfl))
         have e1:=hr6.cell 1 rfl
         have e2:=hr6.cell 2 rfl
         have b2:=hx6.cell 2 rfl
         have b3:=hx6.cell 3 rfl
         have s2:=hx6.z 2
         have s3:=hx6.z 3
         have HX6:=Zb hx6
         have hne:wr.heap.size≠A:=by omega
         clear hr6 hx6
         go_upto_region 16 with fail
         go_region_with fail
         all_goals
          clear b2 b3 s2 s3 e1 e2
          generalize hWn:World.setCell _ _ _=Wn
          have HX8:Hid (Rec Wn A #[.slice na nl nc,.slice ra rl rc,.int .i64 c.id,.int .i64 c.other] 25):=by
           rw [← hWn]
           first | exact (HX6.out.set 2 _).set 3 _ | exact (HX6.out.set 3 _).set 2 _
          have HH8:Hid (∀ b,b≠A→Wn.heap[b]?=W6.heap[b]?):=fun b hb=>by rw [← hWn,Below.heap_setCell _ _ _ _ hb,Below.heap_setCell _ _ _ _ hb]
          have hsz8:Wn.heap.size=W6.heap.size:=by rw [← hWn];simp
          have HB8:Hid (Below w.heap.size w Wn):=by rw [← hWn];exact (HB6.out.setCell (p:=⟨A,_,none⟩) (by show w.heap.size≤A;omega) _).setCell (p:=⟨A,_,none⟩) (by show w.heap.size≤A;omega) _
          have HJ8:Hid (Zz7 g cs w A (j+1) Wn.drew):=by
           refine ⟨HB8.out.drew,HZ6.out.keep (HH8.out (A+1) (by omega)),HAN.out,.slice na nl nc,.slice ra rl rc,?_,?_,?_⟩
           ·rw [Jz g HX.out,Zwh HKD.out];exact HX8.out
           ·rw [Jz g HX.out,Zwh HKD.out]
            exact HN6.out.keep (fun bl q hl=>HH8.out bl (by omega)) (by show _≤Wn.heap.size;omega)
           ·rw [Jz g HX.out,Zwh HKD.out]
            exact HR6.out.keep (fun bl q hl=>HH8.out bl (by omega)) (by show _≤Wn.heap.size;omega)
          clear hWn
          go_wp2_with fail
          go_roundw
          case rel=>exact ⟨j+1,by omega,by go_num,HJ8.out⟩
          case measure=>simp [intOf];omega
        ·have HNO:Hid (cs.any Zaz=true):=List.any_eq_true.2 ⟨c,List.mem_of_getElem? HX.out,by
          unfold Zaz
          rw [HKK.out]
          simp only [Bool.or_eq_true,decide_eq_true_eq]
          omega⟩
         clear hr6 hx6
         replace HZR:=Zb (HZR.out (.inr (.inl HNO.out)))
         have y0:=HZ6.out.cell 0 rfl
         have y1:=HZ6.out.cell 1 rfl
         have y2:=HZ6.out.cell 2 rfl
         have y3:=HZ6.out.cell 3 rfl
         have s0:=HZ6.out.z 0
         have s1:=HZ6.out.z 1
         have s2:=HZ6.out.z 2
         have s3:=HZ6.out.z 3
         go_wp2_with fail
         generalize hWz:World.setCell _ _ _=Wz
         have HRz:Hid (Rec Wz (A+1) #[.slice none 0 0,.slice none 0 0,.int .i64 0,.int .i64 0] 25):=by rw [← hWz];exact (((HZ6.out.set 0 _).set 1 _).set 2 _).set 3 _
         have HBz:Hid (Below w.heap.size w Wz):=by rw [← hWz];exact (((HB6.out.setCell (p:=⟨A+1,_,none⟩) (by show w.heap.size≤A+1;omega) _).setCell (p:=⟨A+1,_,none⟩) (by show w.heap.size≤A+1;omega) _).setCell (p:=⟨A+1,_,none⟩) (by show w.heap.size≤A+1;omega) _).setCell (p:=⟨A+1,_,none⟩) (by show w.heap.size≤A+1;omega) _
         clear hWz y0 y1 y2 y3 s0 s1 s2 s3
         have q0:=HRz.out.cell 0 rfl
         have q1:=HRz.out.cell 1 rfl
         have q2:=HRz.out.cell 2 rfl
         have q3:=HRz.out.cell 3 rfl
         refine bodyPost_ret (v:=.tuple #[.agg #[.slice none 0 0,.slice none 0 0,.int .i64 0,.int .i64 0],.int .i64 2]) ?_ rfl ⟨_,_,rfl,HZR.out _ _,by first | exact HBz.out | exact hA▸HBz.out⟩
         simp [results,Tryz.results24,go_sem,q0,q1,q2,q3]
   ·obtain rfl:j=cs.length:=by omega
    rw [List.take_length] at HGF HXR HNR0 HRR0
    generalize hh:cs.foldl doC g=h at HGF HXR HNR0 HRR0 HZR
    have HHH:=Zb hh
    have fh:=HGF.out.fit (by omega)
    have HTY:Hid (∀ r ∈ h.rels,r.type.size≤maxLen):=fun r hr=>by have:=(HGF.out.r r hr).2.1;unfold maxLen;omega
    have hnl:=HGF.out.nl
    have hrl:=HGF.out.rl
    have HGW:Hid (∀ W,Below wr.heap.size wr W→Zq W.heap.size W (.agg #[.slice na h.nodes.length nc,.slice ra h.rels.length rc,.int .i64 h.nn,.int .i64 h.nr]) h):=fun W hb=>by
     have hw:=Za HBR.out hb
     exact ⟨na,nc,ra,rc,rfl,Zjh (HNR0.out.keep (fun bl _ hl=>hb.block bl hl) hb.size) hw hw.size,Zl4 (HRR0.out.keep (fun bl _ hl=>hb.block bl hl) hb.size) hw hw.size HTY.out⟩
    have HRH:=Zb (Zid h wr.heap.size _ wr (Nat.le_refl _) (HGW.out wr (Below.refl _ _)) fh.sized)
    obtain ⟨kh,hkh⟩:∃ b,Zaj h=b:=⟨_,rfl⟩
    have hkh2:=hkh
    rw [Zi8] at hkh2
    rw [hkh2] at HRH
    rw [hkh] at HZR
    have HKH:=Zb hkh
    have b0:=HXR.out.cell 0 rfl
    have b1:=HXR.out.cell 1 rfl
    have b2:=HXR.out.cell 2 rfl
    have b3:=HXR.out.cell 3 rfl
    have hgt:¬ ((h.nodes.length:Int)+(h.rels.length:Int)>65536):=by omega
    have hwr:IntKind.i64.wrap ((h.nodes.length:Int)+(h.rels.length:Int))=(h.nodes.length:Int)+(h.rels.length:Int):=by rw [IntKind.wrap_i64];omega
    have HANF:Hid (cs.any Zaz=false):=by have:=HANY.out;rwa [List.take_length] at this
    have HAP:Hid (kh=true→Zbb g cs=(h,0)):=fun hk=>by
     unfold Zbb
     rw [HHH.out,if_pos ⟨HOK.out,HANF.out,HKH.out.trans hk⟩]
    clear hkh hkh2 hh fh
    go_wp2_with fail
    refine HRH.out.mono ?_
    rintro e w9 ⟨rfl,hb9⟩
    have HB9:=Zb hb9
    have HX9:=Zb (HXR.out.below hb9 HXR.out.lt)
    have HZ9:=Zb (HZR0.out.below hb9 HZR0.out.lt)
    have HW9:=Zb (Za HBR.out hb9)
    clear hb9 b0 b1 b2 b3 HRH
    cases kh with
    | false =>
     replace HZR:=Zb (HZR.out (.inr (.inr rfl)))
     have y0:=HZ9.out.cell 0 rfl
     have y1:=HZ9.out.cell 1 rfl
     have y2:=HZ9.out.cell 2 rfl
     have y3:=HZ9.out.cell 3 rfl
     have s0:=HZ9.out.z 0
     have s1:=HZ9.out.z 1
     have s2:=HZ9.out.z 2
     have s3:=HZ9.out.z 3
     go_wp2_with fail
     generalize hWz:World.setCell _ _ _=Wz
     have HRz:Hid (Rec Wz (A+1) #[.slice none 0 0,.slice none 0 0,.int .i64 0,.int .i64 0] 25):=by rw [← hWz];exact (((HZ9.out.set 0 _).set 1 _).set 2 _).set 3 _
     have HBz:Hid (Below w.heap.size w Wz):=by rw [← hWz];exact (((HW9.out.setCell (p:=⟨A+1,_,none⟩) (by show w.heap.size≤A+1;omega) _).setCell (p:=⟨A+1,_,none⟩) (by show w.heap.size≤A+1;omega) _).setCell (p:=⟨A+1,_,none⟩) (by show w.heap.size≤A+1;omega) _).setCell (p:=⟨A+1,_,none⟩) (by show w.heap.size≤A+1;omega) _
     clear hWz y0 y1 y2 y3 s0 s1 s2 s3
     have q0:=HRz.out.cell 0 rfl
     have q1:=HRz.out.cell 1 rfl
     have q2:=HRz.out.cell 2 rfl
     have q3:=HRz.out.cell 3 rfl
     refine bodyPost_ret (v:=.tuple #[.agg #[.slice none 0 0,.slice none 0 0,.int .i64 0,.int .i64 0],.int .i64 2]) ?_ rfl ⟨_,_,rfl,HZR.out _ _,by first | exact HBz.out | exact hA▸HBz.out⟩
     simp [results,Tryz.results24,go_sem,q0,q1,q2,q3]
    | true =>
     have HAP2:=Zb (HAP.out rfl)
     clear HAP
     have b0:=HX9.out.cell 0 rfl
     have b1:=HX9.out.cell 1 rfl
     have b2:=HX9.out.cell 2 rfl
     have b3:=HX9.out.cell 3 rfl
     have y0:=HZ9.out.cell 0 rfl
     have y1:=HZ9.out.cell 1 rfl
     have y2:=HZ9.out.cell 2 rfl
     have y3:=HZ9.out.cell 3 rfl
     have s0:=HZ9.out.z 0
     have s1:=HZ9.out.z 1
     have s2:=HZ9.out.z 2
     have s3:=HZ9.out.z 3
     go_wp2_with fail
     generalize hWz:World.setCell _ _ _=Wz
     have HRz:Hid (Rec Wz (A+1) #[.slice na h.nodes.length nc,.slice ra h.rels.length rc,.int .i64 h.nn,.int .i64 h.nr] 25):=by rw [← hWz];exact (((HZ9.out.set 0 _).set 1 _).set 2 _).set 3 _
     have HBz:Hid (Below w.heap.size w Wz):=by rw [← hWz];exact (((HW9.out.setCell (p:=⟨A+1,_,none⟩) (by show w.heap.size≤A+1;omega) _).setCell (p:=⟨A+1,_,none⟩) (by show w.heap.size≤A+1;omega) _).setCell (p:=⟨A+1,_,none⟩) (by show w.heap.size≤A+1;omega) _).setCell (p:=⟨A+1,_,none⟩) (by show w.heap.size≤A+1;omega) _
     have hsz:Wz.heap.size=w9.heap.size:=by rw [← hWz];simp
     have HHz:Hid (∀ b,A+1≠b→Wz.heap[b]?=w9.heap[b]?):=fun b hb=>by
      rw [← hWz]
      repeat rw [Below.heap_setCell _ _ _ _ (Ne.symm hb)]
     have HGz:Hid (Zq Wz.heap.size Wz (.agg #[.slice na h.nodes.length nc,.slice ra h.rels.length rc,.int .i64 h.nn,.int .i64 h.nr]) h) :=
      ⟨na,nc,ra,rc,rfl,Zjh (HNR0.out.keep (fun bl q hl=>(HHz.out bl (by omega)).trans (HB9.out.block bl hl)) (by have:=HB9.out.size;omega)) HBz.out HBz.out.size,Zl4 (HRR0.out.keep (fun bl q hl=>(HHz.out bl (by omega)).trans (HB9.out.block bl hl)) (by have:=HB9.out.size;omega)) HBz.out HBz.out.size HTY.out⟩
     clear hWz y0 y1 y2 y3 s0 s1 s2 s3 b0 b1 b2 b3
     have q0:=HRz.out.cell 0 rfl
     have q1:=HRz.out.cell 1 rfl
     have q2:=HRz.out.cell 2 rfl
     have q3:=HRz.out.cell 3 rfl
     refine bodyPost_ret (v:=.tuple #[.agg #[.slice na h.nodes.length nc,.slice ra h.rels.length rc,.int .i64 h.nn,.int .i64 h.nr],.int .i64 0]) ?_ rfl ⟨_,_,rfl,⟨by rw [HAP2.out];exact HGz.out,by rw [HAP2.out]⟩,by first | exact HBz.out | exact hA▸HBz.out⟩
     simp [results,Tryz.results24,go_sem,q0,q1,q2,q3]
end
