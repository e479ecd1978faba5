/- What is reckoned from counts: relationships of a node with a label. The reference's rows: a label's nodes. The reference's has and Labelled. A region that draws its order, with two operations that make memory one behind the other and a third one beside them: what only reads is taken first, then the three orders meet in one state. Rows held against each other (slices.Equal). Counts held against each other. -/
import Derived.Test.YthfilnflgahcjaaGreatDoorJoin7
import Derived.Test.YthfilnflgahcjaaGreatDoorJoin10
import Derived.Test.YthfilnflgahcjaaGreatDoorJoin4
import Derived.Test.YthfilnflgahcjaaGreatDoorJoin3
import Derived.Test.YthfilnflgahcjaaGreatDoorJoin5
namespace Go.Proofs.YthfilnflgahcjaaGreatDoor
open Go.RowKit Go.Shelf Go.Maps
set_option linter.all false
attribute [local go_sem] Oper.semAt_some
def Zzu (s:Zak) (lab:ByteArray) (f:Int) (ts:List ByteArray):Int :=
 let T:=if ts=[] then s.types.map (fun x=>x.1) else ts
 Zbl (if f<=0 then Zah [if 0<=f then Zah [0,Zb7 s lab true T] else 0,Zb7 s lab false T] else (if 0<=f then Zah [0,Zb7 s lab true T] else 0)) (Zau s [lab])
set_option maxRecDepth 100000 in
set_option maxHeartbeats 8000000 in
theorem Zzv (s:Zak) (vl vt ve vk vs:Value) (lab:ByteArray) (f:Int) (ls:List ByteArray) (B:Nat) (w:World) (hB:B<=w.heap.size) (h:Zc0 B w vl vt ve vk s) (hs:Zal 1 Zap B w vs ls) (a2:okS lab) (a8:∀ x ∈ ls,okS x) (hl:ls.length<=100000):Calls Tryz.prog 28 #[Za4 s vl vt ve vk,.string lab,.int .i64 f,vs] w fun e w'=>e=.returned (.int .i64 (Zzu s lab f ls))/\Below w.heap.size w w':=by
 obtain ⟨T,hT⟩:∃ T,(if ls=[] then s.types.map (fun x=>x.1) else ls)=T:=⟨_,rfl⟩
 have a6:∀ x ∈ T,okS x:=by
  intro x hx
  rw [<- hT] at hx
  split at hx
  ·obtain ⟨y,hy,rfl⟩:=List.mem_map.1 hx
   exact h.ot y hy
  ·exact a8 x hx
 have a3:T.length<=100000:=by
  rw [<- hT]
  split
  ·rw [List.length_map];exact h.nt
  ·exact hl
 have V:Hid (∀ W v,Below w.heap.size w W->Zal 1 Zap W.heap.size W v T->Calls Tryz.prog 61 #[Za4 s vl vt ve vk,.string lab,.bool true,v] W fun e w'=>e=.returned (.int .i64 (Zb7 s lab true T))/\Below W.heap.size W w'):=fun W v hb hv=>Zfx s vl vt ve vk v lab true T _ W (Nat.le_refl _) (h.up (hb.mono hB) (Nat.le_trans hB hb.size)) hv a2 a6 a3
 have X:Hid (∀ W v,Below w.heap.size w W->Zal 1 Zap W.heap.size W v T->Calls Tryz.prog 61 #[Za4 s vl vt ve vk,.string lab,.bool false,v] W fun e w'=>e=.returned (.int .i64 (Zb7 s lab false T))/\Below W.heap.size W w'):=fun W v hb hv=>Zfx s vl vt ve vk v lab false T _ W (Nat.le_refl _) (h.up (hb.mono hB) (Nat.le_trans hB hb.size)) hv a2 a6 a3
 have HL:Hid (∀ W,Below w.heap.size w W->Calls Tryz.prog 19 #[Za4 s vl vt ve vk,.slice (some ⟨W.heap.size,0,none⟩) 1 1] (W.alloc (.cells #[.string lab] 9)) fun e w'=>e=.returned (.int .i64 (Zau s [lab]))/\Below (W.alloc (.cells #[.string lab] 9)).heap.size (W.alloc (.cells #[.string lab] 9)) w'):=fun W hb=>Zjq s vl vt ve vk _ [lab] _ _ (Nat.le_refl _) ((h.up (hb.mono hB) (Nat.le_trans hB hb.size)).up (Zc _ _) (Zc W _).size) (Zbb (k:=1) (enc:=Zap) (fun _=>rfl) W [lab] #[.string lab] 9 rfl (show 1<=9223372036854775807 by decide)) (fun x hx=>by simp only [List.mem_cons,List.not_mem_nil,or_false] at hx;rw [hx];exact a2) (show 1<=100000 by decide)
 have a9:Hid (∀ W,Below w.heap.size w W->Calls Tryz.prog 64 #[vt,.func (.func 59) #[] #[]] W fun e w'=>∃ v,e=.returned v/\Jb 9 1 Zap W.heap.size w' v (s.types.map fun x=>x.1)/\Below W.heap.size W w'):=fun W hb=>Jeh s.types vt B W (Nat.le_trans hB hb.size) (h.ht.keep (hb.mono hB)) h.nt
 have b1:Zzu s lab f ls=Zbl (if f<=0 then Zah [if 0<=f then Zah [0,Zb7 s lab true T] else 0,Zb7 s lab false T] else (if 0<=f then Zah [0,Zb7 s lab true T] else 0)) (Zau s [lab]):=by
  unfold Zzu
  rw [hT]
 rw [b1]
 clear b1
 obtain ⟨d,b0⟩:∃ E,Zb7 s lab true T=E:=⟨_,rfl⟩
 obtain ⟨l,b2⟩:∃ E,Zb7 s lab false T=E:=⟨_,rfl⟩
 obtain ⟨L,hL⟩:∃ E,Zau s [lab]=E:=⟨_,rfl⟩
 rw [b0] at V |-
 rw [b2] at X |-
 rw [hL] at HL |-
 clear b0 b2 hL a6 a3
 obtain ⟨S,a1⟩:∃ r,Zbl (if f<=0 then Zah [if 0<=f then Zah [0,d] else 0,l] else (if 0<=f then Zah [0,d] else 0)) L=r:=⟨_,rfl⟩
 rw [a1]
 have K:Hid (Zbl (if 0<=f then (if f<=0 then Zah [Zah [0,d],l] else Zah [0,d]) else (if f<=0 then Zah [0,l] else 0)) L=S):=by
  show _=_
  rw [<- a1]
  by_cases d1:0<=f<;>by_cases d2:f<=0<;>simp only [d1,d2,if_true,if_false]
 have U:Hid (∀ a W,Calls Tryz.prog 32 #[.int .i64 a,.int .i64 L] W fun e w'=>e=.returned (.int .i64 (Zbl a L))/\w'=W):=fun a W=>Zio a L W
 have HS:=Za (fun W (hb:Below w.heap.size w W)=>(hs.keep (hb.mono hB)).mono (Nat.le_trans hB hb.size))
 clear a1
 obtain ⟨la,lc,rfl,_⟩:=h.hl
 obtain ⟨ta,tc,rfl,_⟩:=h.ht
 obtain ⟨ea,ec,rfl,_⟩:=h.he
 obtain ⟨ka,kc,rfl,_⟩:=h.hk
 obtain ⟨sa,sc,rfl,_⟩:=hs
 unfold Za4 at *
 generalize s.nodes=n at *
 generalize s.rels=r at *
 generalize s.labels.length=l1 at *
 generalize s.types.length=l2 at *
 generalize s.ends.length=l3 at *
 generalize s.keys.length=l4 at *
 clear h a8
 by_cases h0:ls=[]
 ·subst h0
  rw [if_pos rfl] at hT
  rw [hT] at a9
  simp only [List.length_nil]
  clear HS hT
  go_enter Tryz.func28,Tryz.ntmps28
  go_upto_region 1 with fail
  have R:=Za (Zc w (.cells #[.int .i64 n,.int .i64 r,.slice la l1 lc,.slice ta l2 tc,.slice ea l3 ec,.slice ka l4 kc] 33))
  have Y:=Za (Zde w (.int .i64 n) (.int .i64 r) (.slice la l1 lc) (.slice ta l2 tc) (.slice ea l3 ec) (.slice ka l4 kc) 33)
  obtain ⟨W1,a0⟩:∃ W,w.alloc (.cells #[.int .i64 n,.int .i64 r,.slice la l1 lc,.slice ta l2 tc,.slice ea l3 ec,.slice ka l4 kc] 33)=W:=⟨_,rfl⟩
  rw [a0] at R Y |-
  clear a0
  obtain ⟨_,F,e1,e2,G,u,D⟩:=Y.out
  go_upto_region 3 with (go_at_call 64;refine (a9.out _ R.out).mono ?_;rintro e W3 ⟨v3,rfl,a4,a5⟩;have P:=Za (Below.on R.out a5);have I:=Za (Y.out.keep a5);have O:=Za (Jb.srow (enc:=Zap) (k:=1) (fun _=>rfl) a4);obtain ⟨va,vc,rfl⟩:=a4.slice;clear a5 a4)
  clear F e1 e2 G u D
  generalize T.length=lT at *
  by_cases d1:0<=f
  ·by_cases d2:f<=0
   ·have p:Hid (S=Zbl (Zah [Zah [0,d],l]) L):=by show _=_;rw [<- K.out,if_pos d1,if_pos d2]
    obtain ⟨_,F,e1,e2,G,u,D⟩:=I.out
    go_upto_region 6 with (first
     | (go_at_call 61;refine (V.out _ _ P.out O.out).mono ?_;rintro e b ⟨rfl,hb⟩
        have g:=Za (Below.on (Below.on P.out hb) (Zc b (.cells #[.int .i64 0,.int .i64 d] 2)))
        have j:=Za ((I.out.keep hb).keep (Zc b (.cells #[.int .i64 0,.int .i64 d] 2)))
        have m:Hid (Zal 1 Zap (b.alloc (.cells #[.int .i64 0,.int .i64 d] 2)).heap.size (b.alloc (.cells #[.int .i64 0,.int .i64 d] 2)) _ T):=(O.out.up hb hb.size).up (Zc b _) (Zc b _).size
        have H:=Za (Zcj [0,d] _ _ _ (Nat.le_refl _) (Zbb (k:=1) (enc:=Zkk) (fun _=>rfl) b [0,d] #[.int .i64 0,.int .i64 d] 2 rfl (show 2<=9223372036854775807 by decide)))
        clear hb)
     | (go_at_call 34;refine H.out.mono ?_;rintro e _ ⟨rfl,rfl⟩))
    obtain ⟨Wa,q⟩:∃ W,(b.alloc (.cells #[.int .i64 0,.int .i64 d] 2))=W:=⟨_,rfl⟩
    rw [q] at g j m |-
    clear q F e1 e2 G u D
    obtain ⟨_,F,e1,e2,G,u,D⟩:=j.out
    go_upto_region 8 with (first
     | (go_at_call 61;refine (X.out _ _ g.out m.out).mono ?_;rintro e c ⟨rfl,hb⟩
        have i:=Za (Below.on (Below.on g.out hb) (Zc c (.cells #[.int .i64 (Zah [0,d]),.int .i64 l] 2)))
        have o:=Za ((j.out.keep hb).keep (Zc c (.cells #[.int .i64 (Zah [0,d]),.int .i64 l] 2)))
        have C:Hid (Zal 1 Zap (c.alloc (.cells #[.int .i64 (Zah [0,d]),.int .i64 l] 2)).heap.size (c.alloc (.cells #[.int .i64 (Zah [0,d]),.int .i64 l] 2)) _ T):=(m.out.up hb hb.size).up (Zc c _) (Zc c _).size
        have t:=Za (Zcj [(Zah [0,d]),l] _ _ _ (Nat.le_refl _) (Zbb (k:=1) (enc:=Zkk) (fun _=>rfl) c [(Zah [0,d]),l] #[.int .i64 (Zah [0,d]),.int .i64 l] 2 rfl (show 2<=9223372036854775807 by decide)))
        clear hb)
     | (go_at_call 34;refine t.out.mono ?_;rintro e _ ⟨rfl,rfl⟩))
    obtain ⟨Wb,z⟩:∃ W,(c.alloc (.cells #[.int .i64 (Zah [0,d]),.int .i64 l] 2))=W:=⟨_,rfl⟩
    rw [z] at i o C |-
    clear z F e1 e2 G u D
    obtain ⟨_,F,e1,e2,G,u,D⟩:=o.out
    go_wp2_with (first
     | (go_at_call 19;refine (HL.out _ i.out).mono ?_;rintro e WF ⟨rfl,hb⟩;have A:=Za (Below.on (Below.on i.out (Zc _ _)) hb);clear hb)
     | (go_at_call 32;refine (U.out _ _).mono ?_;rintro e _ ⟨rfl,rfl⟩))
    go_ret
    exact ⟨by rw [p.out];rfl,A.out⟩
   ·have p:Hid (S=Zbl (Zah [0,d]) L):=by show _=_;rw [<- K.out,if_pos d1,if_neg d2]
    obtain ⟨_,F,e1,e2,G,u,D⟩:=I.out
    go_upto_region 6 with (first
     | (go_at_call 61;refine (V.out _ _ P.out O.out).mono ?_;rintro e b ⟨rfl,hb⟩
        have g:=Za (Below.on (Below.on P.out hb) (Zc b (.cells #[.int .i64 0,.int .i64 d] 2)))
        have j:=Za ((I.out.keep hb).keep (Zc b (.cells #[.int .i64 0,.int .i64 d] 2)))
        have m:Hid (Zal 1 Zap (b.alloc (.cells #[.int .i64 0,.int .i64 d] 2)).heap.size (b.alloc (.cells #[.int .i64 0,.int .i64 d] 2)) _ T):=(O.out.up hb hb.size).up (Zc b _) (Zc b _).size
        have H:=Za (Zcj [0,d] _ _ _ (Nat.le_refl _) (Zbb (k:=1) (enc:=Zkk) (fun _=>rfl) b [0,d] #[.int .i64 0,.int .i64 d] 2 rfl (show 2<=9223372036854775807 by decide)))
        clear hb)
     | (go_at_call 34;refine H.out.mono ?_;rintro e _ ⟨rfl,rfl⟩))
    obtain ⟨Wa,q⟩:∃ W,(b.alloc (.cells #[.int .i64 0,.int .i64 d] 2))=W:=⟨_,rfl⟩
    rw [q] at g j m |-
    clear q F e1 e2 G u D
    obtain ⟨_,F,e1,e2,G,u,D⟩:=j.out
    go_wp2_with (first
     | (go_at_call 19;refine (HL.out _ g.out).mono ?_;rintro e WF ⟨rfl,hb⟩;have A:=Za (Below.on (Below.on g.out (Zc _ _)) hb);clear hb)
     | (go_at_call 32;refine (U.out _ _).mono ?_;rintro e _ ⟨rfl,rfl⟩))
    go_ret
    exact ⟨by rw [p.out];rfl,A.out⟩
  ·have d2:f<=0:=by omega
   have p:Hid (S=Zbl (Zah [0,l]) L):=by show _=_;rw [<- K.out,if_neg d1,if_pos d2]
   obtain ⟨_,F,e1,e2,G,u,D⟩:=I.out
   go_upto_region 8 with (first
    | (go_at_call 61;refine (X.out _ _ P.out O.out).mono ?_;rintro e c ⟨rfl,hb⟩
       have i:=Za (Below.on (Below.on P.out hb) (Zc c (.cells #[.int .i64 0,.int .i64 l] 2)))
       have o:=Za ((I.out.keep hb).keep (Zc c (.cells #[.int .i64 0,.int .i64 l] 2)))
       have C:Hid (Zal 1 Zap (c.alloc (.cells #[.int .i64 0,.int .i64 l] 2)).heap.size (c.alloc (.cells #[.int .i64 0,.int .i64 l] 2)) _ T):=(O.out.up hb hb.size).up (Zc c _) (Zc c _).size
       have t:=Za (Zcj [0,l] _ _ _ (Nat.le_refl _) (Zbb (k:=1) (enc:=Zkk) (fun _=>rfl) c [0,l] #[.int .i64 0,.int .i64 l] 2 rfl (show 2<=9223372036854775807 by decide)))
       clear hb)
    | (go_at_call 34;refine t.out.mono ?_;rintro e _ ⟨rfl,rfl⟩))
   obtain ⟨Wb,z⟩:∃ W,(c.alloc (.cells #[.int .i64 0,.int .i64 l] 2))=W:=⟨_,rfl⟩
   rw [z] at i o C |-
   clear z F e1 e2 G u D
   obtain ⟨_,F,e1,e2,G,u,D⟩:=o.out
   go_wp2_with (first
    | (go_at_call 19;refine (HL.out _ i.out).mono ?_;rintro e WF ⟨rfl,hb⟩;have A:=Za (Below.on (Below.on i.out (Zc _ _)) hb);clear hb)
    | (go_at_call 32;refine (U.out _ _).mono ?_;rintro e _ ⟨rfl,rfl⟩))
   go_ret
   exact ⟨by rw [p.out];rfl,A.out⟩
 ·rw [if_neg h0] at hT
  subst hT
  have a7:(ls.length:Int)≠0:=by
   have:ls.length≠0:=fun e=>h0 (List.eq_nil_of_length_eq_zero e)
   omega
  have b3:((ls.length:Int)==0)=false:=beq_eq_false_iff_ne.2 a7
  obtain ⟨T,hT⟩:∃ T,ls=T:=⟨_,rfl⟩
  rw [hT] at V X HS b3 |-
  clear hT h0 a7 hl
  go_enter Tryz.func28,Tryz.ntmps28
  go_upto_region 1 with fail
  have R:=Za (Zc w (.cells #[.int .i64 n,.int .i64 r,.slice la l1 lc,.slice ta l2 tc,.slice ea l3 ec,.slice ka l4 kc] 33))
  have Y:=Za (Zde w (.int .i64 n) (.int .i64 r) (.slice la l1 lc) (.slice ta l2 tc) (.slice ea l3 ec) (.slice ka l4 kc) 33)
  obtain ⟨W1,a0⟩:∃ W,w.alloc (.cells #[.int .i64 n,.int .i64 r,.slice la l1 lc,.slice ta l2 tc,.slice ea l3 ec,.slice ka l4 kc] 33)=W:=⟨_,rfl⟩
  rw [a0] at R Y |-
  clear a0
  have M:=R
  have N:=Y
  have Q:=Za (HS.out W1 R.out)
  go_upto_region 3 with fail
  generalize T.length=lT at *
  by_cases d1:0<=f
  ·by_cases d2:f<=0
   ·have p:Hid (S=Zbl (Zah [Zah [0,d],l]) L):=by show _=_;rw [<- K.out,if_pos d1,if_pos d2]
    obtain ⟨_,F,e1,e2,G,u,D⟩:=N.out
    go_upto_region 6 with (first
     | (go_at_call 61;refine (V.out _ _ M.out Q.out).mono ?_;rintro e b ⟨rfl,hb⟩
        have g:=Za (Below.on (Below.on M.out hb) (Zc b (.cells #[.int .i64 0,.int .i64 d] 2)))
        have j:=Za ((N.out.keep hb).keep (Zc b (.cells #[.int .i64 0,.int .i64 d] 2)))
        have m:Hid (Zal 1 Zap (b.alloc (.cells #[.int .i64 0,.int .i64 d] 2)).heap.size (b.alloc (.cells #[.int .i64 0,.int .i64 d] 2)) _ T):=(Q.out.up hb hb.size).up (Zc b _) (Zc b _).size
        have H:=Za (Zcj [0,d] _ _ _ (Nat.le_refl _) (Zbb (k:=1) (enc:=Zkk) (fun _=>rfl) b [0,d] #[.int .i64 0,.int .i64 d] 2 rfl (show 2<=9223372036854775807 by decide)))
        clear hb)
     | (go_at_call 34;refine H.out.mono ?_;rintro e _ ⟨rfl,rfl⟩))
    obtain ⟨Wa,q⟩:∃ W,(b.alloc (.cells #[.int .i64 0,.int .i64 d] 2))=W:=⟨_,rfl⟩
    rw [q] at g j m |-
    clear q F e1 e2 G u D
    obtain ⟨_,F,e1,e2,G,u,D⟩:=j.out
    go_upto_region 8 with (first
     | (go_at_call 61;refine (X.out _ _ g.out m.out).mono ?_;rintro e c ⟨rfl,hb⟩
        have i:=Za (Below.on (Below.on g.out hb) (Zc c (.cells #[.int .i64 (Zah [0,d]),.int .i64 l] 2)))
        have o:=Za ((j.out.keep hb).keep (Zc c (.cells #[.int .i64 (Zah [0,d]),.int .i64 l] 2)))
        have C:Hid (Zal 1 Zap (c.alloc (.cells #[.int .i64 (Zah [0,d]),.int .i64 l] 2)).heap.size (c.alloc (.cells #[.int .i64 (Zah [0,d]),.int .i64 l] 2)) _ T):=(m.out.up hb hb.size).up (Zc c _) (Zc c _).size
        have t:=Za (Zcj [(Zah [0,d]),l] _ _ _ (Nat.le_refl _) (Zbb (k:=1) (enc:=Zkk) (fun _=>rfl) c [(Zah [0,d]),l] #[.int .i64 (Zah [0,d]),.int .i64 l] 2 rfl (show 2<=9223372036854775807 by decide)))
        clear hb)
     | (go_at_call 34;refine t.out.mono ?_;rintro e _ ⟨rfl,rfl⟩))
    obtain ⟨Wb,z⟩:∃ W,(c.alloc (.cells #[.int .i64 (Zah [0,d]),.int .i64 l] 2))=W:=⟨_,rfl⟩
    rw [z] at i o C |-
    clear z F e1 e2 G u D
    obtain ⟨_,F,e1,e2,G,u,D⟩:=o.out
    go_wp2_with (first
     | (go_at_call 19;refine (HL.out _ i.out).mono ?_;rintro e WF ⟨rfl,hb⟩;have A:=Za (Below.on (Below.on i.out (Zc _ _)) hb);clear hb)
     | (go_at_call 32;refine (U.out _ _).mono ?_;rintro e _ ⟨rfl,rfl⟩))
    go_ret
    exact ⟨by rw [p.out];rfl,A.out⟩
   ·have p:Hid (S=Zbl (Zah [0,d]) L):=by show _=_;rw [<- K.out,if_pos d1,if_neg d2]
    obtain ⟨_,F,e1,e2,G,u,D⟩:=N.out
    go_upto_region 6 with (first
     | (go_at_call 61;refine (V.out _ _ M.out Q.out).mono ?_;rintro e b ⟨rfl,hb⟩
        have g:=Za (Below.on (Below.on M.out hb) (Zc b (.cells #[.int .i64 0,.int .i64 d] 2)))
        have j:=Za ((N.out.keep hb).keep (Zc b (.cells #[.int .i64 0,.int .i64 d] 2)))
        have m:Hid (Zal 1 Zap (b.alloc (.cells #[.int .i64 0,.int .i64 d] 2)).heap.size (b.alloc (.cells #[.int .i64 0,.int .i64 d] 2)) _ T):=(Q.out.up hb hb.size).up (Zc b _) (Zc b _).size
        have H:=Za (Zcj [0,d] _ _ _ (Nat.le_refl _) (Zbb (k:=1) (enc:=Zkk) (fun _=>rfl) b [0,d] #[.int .i64 0,.int .i64 d] 2 rfl (show 2<=9223372036854775807 by decide)))
        clear hb)
     | (go_at_call 34;refine H.out.mono ?_;rintro e _ ⟨rfl,rfl⟩))
    obtain ⟨Wa,q⟩:∃ W,(b.alloc (.cells #[.int .i64 0,.int .i64 d] 2))=W:=⟨_,rfl⟩
    rw [q] at g j m |-
    clear q F e1 e2 G u D
    obtain ⟨_,F,e1,e2,G,u,D⟩:=j.out
    go_wp2_with (first
     | (go_at_call 19;refine (HL.out _ g.out).mono ?_;rintro e WF ⟨rfl,hb⟩;have A:=Za (Below.on (Below.on g.out (Zc _ _)) hb);clear hb)
     | (go_at_call 32;refine (U.out _ _).mono ?_;rintro e _ ⟨rfl,rfl⟩))
    go_ret
    exact ⟨by rw [p.out];rfl,A.out⟩
  ·have d2:f<=0:=by omega
   have p:Hid (S=Zbl (Zah [0,l]) L):=by show _=_;rw [<- K.out,if_neg d1,if_pos d2]
   obtain ⟨_,F,e1,e2,G,u,D⟩:=N.out
   go_upto_region 8 with (first
    | (go_at_call 61;refine (X.out _ _ M.out Q.out).mono ?_;rintro e c ⟨rfl,hb⟩
       have i:=Za (Below.on (Below.on M.out hb) (Zc c (.cells #[.int .i64 0,.int .i64 l] 2)))
       have o:=Za ((N.out.keep hb).keep (Zc c (.cells #[.int .i64 0,.int .i64 l] 2)))
       have C:Hid (Zal 1 Zap (c.alloc (.cells #[.int .i64 0,.int .i64 l] 2)).heap.size (c.alloc (.cells #[.int .i64 0,.int .i64 l] 2)) _ T):=(Q.out.up hb hb.size).up (Zc c _) (Zc c _).size
       have t:=Za (Zcj [0,l] _ _ _ (Nat.le_refl _) (Zbb (k:=1) (enc:=Zkk) (fun _=>rfl) c [0,l] #[.int .i64 0,.int .i64 l] 2 rfl (show 2<=9223372036854775807 by decide)))
       clear hb)
    | (go_at_call 34;refine t.out.mono ?_;rintro e _ ⟨rfl,rfl⟩))
   obtain ⟨Wb,z⟩:∃ W,(c.alloc (.cells #[.int .i64 0,.int .i64 l] 2))=W:=⟨_,rfl⟩
   rw [z] at i o C |-
   clear z F e1 e2 G u D
   obtain ⟨_,F,e1,e2,G,u,D⟩:=o.out
   go_wp2_with (first
    | (go_at_call 19;refine (HL.out _ i.out).mono ?_;rintro e WF ⟨rfl,hb⟩;have A:=Za (Below.on (Below.on i.out (Zc _ _)) hb);clear hb)
    | (go_at_call 32;refine (U.out _ _).mono ?_;rintro e _ ⟨rfl,rfl⟩))
   go_ret
   exact ⟨by rw [p.out];rfl,A.out⟩
end Go.Proofs.YthfilnflgahcjaaGreatDoor

namespace Go.Proofs.YthfilnflgahcjaaGreatDoor
open Go.RowKit Go.Shelf
set_option linter.all false
attribute [local go_sem] Oper.semAt_some
theorem Zfz {x y:ByteArray} (h:¬ x=y):(x.toList==y.toList)=false:=beq_eq_false_iff_ne.2 fun e=>h (by
 rw [ByteArray.toList_eq,ByteArray.toList_eq] at e
 exact Go.WideShapes.bytes_inj e)
theorem Zec {x y:ByteArray} (h:x=y):(x.toList==y.toList)=true:=by rw [h];exact beq_self_eq_true _
end Go.Proofs.YthfilnflgahcjaaGreatDoor

namespace Go.Proofs.YthfilnflgahcjaaGreatDoor
open Go.RowKit Go.Shelf
set_option linter.all false
attribute [local go_sem] Oper.semAt_some
def Zdj (x:ByteArray) (l:List ByteArray):Bool:=l.any fun y=>decide (y=x)
theorem Zzq {l:List ByteArray} {x y:ByteArray} {j:Nat} (h:l[j]?=some y):Zdj x (l.drop j)=(decide (y=x)||Zdj x (l.drop (j+1))):=by
 obtain ⟨u,f⟩:=List.getElem?_eq_some_iff.1 h
 rw [List.drop_eq_getElem_cons u,f];rfl
set_option maxRecDepth 100000 in
set_option maxHeartbeats 4000000 in
theorem Znn (l:List ByteArray) (x:ByteArray) (v:Value) (B:Nat) (w:World) (E:Zal 1 Zap B w v l) :
  Calls Tryz.prog 49 #[v,.string x] w fun e w'=>e=.returned (.bool (Zdj x l))/\w'=w:=by
 obtain ⟨a,c,rfl,F,H,z⟩:=E
 have D:=Za z
 obtain ⟨n,hn⟩:∃ n,l.length=n:=⟨_,rfl⟩
 have t:=Za hn
 rw [hn] at F |-
 obtain ⟨d,b⟩:∃ r,Zdj x l=r:=⟨_,rfl⟩
 have A:=Za b
 rw [b]
 clear z hn b
 go_enter Tryz.func49,Tryz.ntmps49
 go_wp2_with fail
 go_loopw [5] (fun i wr=>∃ (j:Nat),j<=n/\i=.int .i64 j/\Zdj x (l.drop j)=d/\wr=w) (fun i _=>n - (intOf i).toNat)
 case atStart=>exact ⟨0,Nat.zero_le _,rfl,A.out,rfl⟩
 case round =>
  obtain ⟨j,u,rfl,k,rfl⟩:=hrel
  have o:=Za k
  clear k
  by_cases hlt:j<n
  ·have g:(j:Int)<n:=by omega
   obtain ⟨y,f⟩:∃ q,l[j]?=some q:=⟨_,List.getElem?_eq_getElem (by have:=t.out;omega)⟩
   obtain ⟨bl,off,rfl,G,s⟩:=D.out.resolve_left (by intro e;rw [e] at f;simp at f)
   have C:=s j y f 0 _ rfl
   rw [Nat.mul_one,Nat.add_zero] at C
   have m:=Zzq (x:=x) f
   rw [o.out] at m
   replace m:=Za m
   clear f s
   by_cases he:y=x
   ·have p:Hid (d=true):=by show _=_;rw [m.out,decide_eq_true he];rfl
    have hb:=Zec he
    clear he
    go_wp2_with fail
    go_ret
    exact ⟨by rw [p.out];rfl,rfl⟩
   ·have p:Hid (d=Zdj x (l.drop (j+1))):=by show _=_;rw [m.out,decide_eq_false he];rfl
    have hb:=Zfz he
    clear he
    go_wp2_with fail
    go_roundw
    case rel=>exact ⟨j+1,by omega,by go_num,p.out.symm,trivial⟩
    case measure=>simp [intOf];omega
  ·have p:Hid (d=false):=by
    show _=_
    rw [<- o.out,List.drop_of_length_le (by have:=t.out;omega)]
    rfl
   have g:¬ (j:Int)<n:=by omega
   go_wp2_with fail
   go_ret
   exact ⟨by rw [p.out];rfl,rfl⟩
end Go.Proofs.YthfilnflgahcjaaGreatDoor

namespace Go.Proofs.YthfilnflgahcjaaGreatDoor
open Go.RowKit
section
variable {P:Program} {ops:Array Oper} {md:Region.Mode} {Q:Exit->Act->World->Prop} {S:World->Prop}
def Zmb (K:Act->World->Prop):Exit->Act->World->Prop:=fun e a w=>e=.normal/\K a w
theorem Zq5 {K:Act->World->Prop} {oi:Oper} {v:Value}:∀ c (a:Act) w,Zmb K (.panic c) (a.put oi.dst v) w->Zmb K (.panic c) a w:=fun _ _ _ h=>by cases h.1
def Zup (md:Region.Mode) (ops:Array Oper):List Nat->Array Bool->Bool
 | [],_=>true
 | i::r,d=>(Region.ready md ops d).contains i&&(Region.free md ops d i&&Zup md ops r (d.setIfInBounds i true))
def Zuq:List Nat->Array Bool->Array Bool
 | [],d=>d
 | i::r,d=>Zuq r (d.setIfInBounds i true)
theorem Jio {L:List Oper} {w:World} {K:Act->Prop} {R:Act->World->Prop} (hs:Region.noSelect L.toArray=true) {n:Nat}:∀ (A:List Nat) (d:Array Bool) (a:Act),reads L A=true->Zup md L.toArray A d=true ->
  (∀ a,K a->wpAnyH P md L.toArray (Zmb R) (upS w) n (Zuq A d) a w)->wpQuiet P L.toArray (upC w) K (Zac L A) a->wpAnyH P md L.toArray (Zmb R) (upS w) (n+A.length) d a w
 | [],_,a,_,_,C,h=>C a h
 | i::A,d,a,hr,hb,C,h=>by
  simp only [reads,List.all_cons,Bool.and_eq_true] at hr
  obtain ⟨O,Y⟩:=hr
  simp only [Zup,Bool.and_eq_true] at hb
  obtain ⟨b1,b2,b3⟩:=hb
  cases t:Zbn L i with
  | none=>rw [t] at O;cases O
  | some o =>
   rw [t] at O
   simp only [Zac,t,wpQuiet] at h
   have X:L.toArray[i]?=some o:=by rw [List.getElem?_toArray,<- Zgu,t]
   rw [List.length_cons,<- Nat.add_assoc]
   by_cases p:Region.wanted o (yielded L.toArray a.tmps)=true
   ·rw [if_pos p] at h
    obtain ⟨v,h3,h4⟩:=h
    refine wpAnyH_take X hs b2 b1 Zq5 (.inl ⟨p,fun x hx=>?_⟩) (Below.refl _ _) (Jio hs A _ _ Y b3 C h4)
    have G:=h3 x ⟨⟨x,hx⟩,rfl⟩
    unfold Oper.quietAt at G
    generalize W:(execOp a.eval o).run P x=res at G
    cases res with
    | halt y z=>simp only [Oper.quietUpon] at G
    | ok n z =>
     obtain ⟨u,rfl⟩:=Zm0 O W
     simp only [Oper.quietUpon] at G
     rw [G.1,G.2]
   ·rw [if_neg p] at h
    exact wpAnyH_take X hs b2 b1 Zq5 (.inr ⟨by simpa using p,rfl⟩) (Below.refl _ _) (Jio hs A _ _ Y b3 C h)
def Zhx (P:Program) (L:List Oper) (i:Nat) (K:Act->World->Prop) (a:Act) (w:World):Prop :=
 wpList P L.toArray (Zmb K) (Zac L [i]) a w
theorem Znk {L:List Oper} {i:Nat} {a:Act} {w:World} {K K':Act->World->Prop} (hn:(Zbn L i).isSome=true) (C:∀ a w',K a w'->K' a w') (h:Zhx P L i K a w):wpOp P L.toArray Q i K' a w:=by
 refine Zt9 ?_
 unfold Zhx at h
 cases t:Zbn L i with
 | none=>rw [t] at hn;cases hn
 | some o =>
  have X:L.toArray[i]?=some o:=by rw [List.getElem?_toArray,<- Zgu,t]
  simp only [Zac,t,wpList] at h
  unfold wpOp
  simp only [X]
  split
  ·rename_i p
   rw [if_pos p] at h
   rcases h with h | ⟨_,_,_,h,_⟩
   ·exact .inl (Oper.wp_mono (fun H w' g=>C H w' g.2) (Zqa h))
   ·cases h
  ·rename_i p
   rw [if_neg p] at h
   exact C _ _ h.2
def Zur (P:Program) (L:List Oper) (B:World->Prop) (Q:Exit->Act->World->Prop):List Nat->Act->World->Prop
 | [],a,w=>Q .normal a w
 | i::r,a,w=>Zhx P L i (fun H w'=>B w'/\Zur P L B Q r H w') a w
def Zzk (md:Region.Mode) (L:List Oper):List Nat->Array Bool->Bool
 | [],d=>(Region.ready md L.toArray d).isEmpty
 | i::r,d=>(Region.ready md L.toArray d==[i])&&((Zbn L i).isSome&&Zzk md L r (d.setIfInBounds i true))
theorem Jg9 {L:List Oper}:∀ (T:List Nat) (d:Array Bool) (a:Act) (w:World),Zzk md L T d=true->Zur P L S Q T a w->wpAnyH P md L.toArray (Zmb fun a w=>Q .normal a w) S T.length d a w
 | [],d,a,w,hb,h=>wpAnyH_done (by simpa [Zzk] using hb) ⟨rfl,h⟩ 0
 | i::r,d,a,w,hb,h=>by
  simp only [Zzk,Bool.and_eq_true,beq_iff_eq] at hb
  obtain ⟨b1,b2,b3⟩:=hb
  refine wpAnyH_all b1 (by simp) fun j hj=>?_
  obtain rfl:j=i:=by simpa using hj
  exact Znk b2 (fun H w' g=>⟨g.1,Jg9 r _ H w' b3 g.2⟩) h
def Ji9 (P:Program) (L:List Oper) (B:World->Prop) (Q:Exit->Act->World->Prop) (i j k:Nat) (T:List Nat) (w:World) (a:Act):Prop :=
 ∃ I:Value->Value->Value->World->Prop,
  let F:=fun (U:Act) (f:World)=>B f/\∃ x y z,U=((a.put ((Zbn L i).bind Oper.dst) x).put ((Zbn L j).bind Oper.dst) y).put ((Zbn L k).bind Oper.dst) z/\I x y z f
  Zhx P L i (fun N w1=>B w1/\Zhx P L j (fun E w2=>B w2/\Zhx P L k F E w2) N w1/\Zhx P L k (fun E w2=>B w2/\Zhx P L j F E w2) N w1) a w /\
  Zhx P L k (fun N w1=>B w1/\Zhx P L i (fun E w2=>B w2/\Zhx P L j F E w2) N w1) a w /\
  ∀ x y z f,B f->I x y z f->Zur P L B Q T (((a.put ((Zbn L i).bind Oper.dst) x).put ((Zbn L j).bind Oper.dst) y).put ((Zbn L k).bind Oper.dst) z) f
def Ji0 (L:List Oper) (A:List Nat) (i j k:Nat) (T:List Nat):Bool :=
 let l0:=Zuq A (Array.replicate L.length false)
 let rd:=fun l=>Region.ready .any L.toArray l
 let s:=fun (l:Array Bool) (x:Nat)=>l.setIfInBounds x true
 Region.noSelect L.toArray&&(reads L A&&(Zup .any L.toArray A (Array.replicate L.length false)&&((T.length+1+1+1+A.length==L.length) &&
  ((Zbn L i).isSome&&((Zbn L j).isSome&&((Zbn L k).isSome &&
  ((rd l0==[i,k])&&((rd (s l0 i)==[j,k])&&((rd (s (s l0 i) j)==[k])&&((rd (s (s l0 i) k)==[j])&&((rd (s l0 k)==[i])&&((rd (s (s l0 k) i)==[j]) &&
  (((s (s (s l0 i) k) j)==(s (s (s l0 i) j) k))&&(((s (s (s l0 k) i) j)==(s (s (s l0 i) j) k))&&Zzk .any L T (s (s (s l0 i) j) k)))))))))))))))
theorem Jha {id:Nat} {L:List Oper} {a:Act} {w:World} (A:List Nat) (i j k:Nat) (T:List Nat) (hm:P.follows .mixedOrders=true) (hB:Ji0 L A i j k T=true)
  (h:wpQuiet P L.toArray (upC w.drew) (Ji9 P L (upS w.drew) Q i j k T w.drew) (Zac L A) a):(Code.region id L.toArray true).wp P Q a w:=by
 simp only [Ji0,Bool.and_eq_true,beq_iff_eq] at hB
 obtain ⟨O,Y,h3,h4,n1,n2,n3,r1,r2,r3,r4,r5,r6,e1,e2,G⟩:=hB
 refine Code.wp_mono (Q:=Zmb fun a w=>Q .normal a w) (fun e a w q=>by rw [q.1];exact q.2) (wp_region_held (S:=upS w.drew) hm ?_)
 have h7:=Jio (P:=P) (md:=.any) (R:=fun a w=>Q .normal a w) (n:=T.length+1+1+1) O A (Array.replicate L.length false) a Y h3 ?_ h
 ·rw [h4] at h7;simpa using h7
 ·rintro H ⟨I,o1,o3,oe⟩
  have M:∀ (l:Array Bool),l=(((Zuq A (Array.replicate L.length false)).setIfInBounds i true).setIfInBounds j true).setIfInBounds k true->∀ U f,(upS w.drew f/\∃ x y z,U=((H.put ((Zbn L i).bind Oper.dst) x).put ((Zbn L j).bind Oper.dst) y).put ((Zbn L k).bind Oper.dst) z/\I x y z f)->upS w.drew f/\wpAnyH P .any L.toArray (Zmb fun a w=>Q .normal a w) (upS w.drew) T.length l U f:=by
   rintro _ rfl U f ⟨p,x,y,z,rfl,hI⟩
   exact ⟨p,Jg9 T _ _ _ G (oe x y z f p hI)⟩
  have one:∀ {m n:Nat} {l:Array Bool} {b:Act} {v:World} {K:Act->World->Prop},Region.ready .any L.toArray l=[m]->(Zbn L m).isSome=true->Zhx P L m K b v->(∀ b' v',K b' v'->upS w.drew v'/\wpAnyH P .any L.toArray (Zmb fun a w=>Q .normal a w) (upS w.drew) n (l.setIfInBounds m true) b' v')->wpAnyH P .any L.toArray (Zmb fun a w=>Q .normal a w) (upS w.drew) (n+1) l b v:=by
   intro m n l b v K hr hn t C
   refine wpAnyH_all hr (by simp) fun q D=>?_
   obtain rfl:q=m:=by simpa using D
   exact Znk hn C t
  refine wpAnyH_all r1 (by simp) fun q D=>?_
  rcases List.mem_cons.1 D with rfl | D
  ·refine Znk n1 ?_ o1
   rintro N w1 ⟨hb,p1,p2⟩
   refine ⟨hb,wpAnyH_all r2 (by simp) fun q D=>?_⟩
   rcases List.mem_cons.1 D with rfl | D
   ·exact Znk n2 (fun E w2 g=>⟨g.1,one r3 n3 g.2 (M _ rfl)⟩) p1
   ·obtain rfl:q=k:=by simpa using D
    exact Znk n3 (fun E w2 g=>⟨g.1,one r4 n2 g.2 (M _ e1)⟩) p2
  ·obtain rfl:q=k:=by simpa using D
   exact Znk n3 (fun N w1 g=>⟨g.1,one r5 n1 g.2 fun E w2 V=>⟨V.1,one r6 n2 V.2 (M _ e2)⟩⟩) o3
end
end Go.Proofs.YthfilnflgahcjaaGreatDoor

namespace Go.Proofs.YthfilnflgahcjaaGreatDoor
open Go.RowKit Go.Shelf Go.Maps
set_option linter.all false
attribute [local go_sem] Oper.semAt_some
theorem Zd4 {α:Type} {xs a:List α} {j:Nat} {x y:α} (h:xs.take j=a.take j) (b:xs[j]?=some x) (c:a[j]?=some y) (e:x=y):xs.take (j+1)=a.take (j+1):=by
 rw [List.take_add_one,List.take_add_one,h,b,c,e]
theorem Zj7 {α:Type} {xs a:List α} {j:Nat} {x y:α} (b:xs[j]?=some x) (c:a[j]?=some y) (e:x≠y):xs≠a:=fun h=>by
 rw [h,c] at b
 exact e (Option.some.inj b).symm
theorem Zfa {α:Type} {xs a:List α} {j:Nat} (h:xs.take j=a.take j) (b:xs.length<=j) (c:a.length<=j):xs=a:=by
 rwa [List.take_of_length_le b,List.take_of_length_le c] at h
end Go.Proofs.YthfilnflgahcjaaGreatDoor

namespace Go.Proofs.YthfilnflgahcjaaGreatDoor
open Go.RowKit Go.Shelf Go.Maps
set_option linter.all false
attribute [local go_sem] Oper.semAt_some
def Zdt (a b:Zak):Bool:=decide (a.nodes=b.nodes)&&(decide (a.rels=b.rels)&&(decide (a.labels=b.labels)&&(decide (a.types=b.types)&&(decide (a.ends=b.ends)&&decide (a.keys=b.keys)))))
theorem Zgz (a:Zak):Zdt a a=true:=by simp [Zdt]
end Go.Proofs.YthfilnflgahcjaaGreatDoor

