/- Bytes and texts, told. What is in a list or a map, told. -/
import Derived.Test.YthfilnflgahcjaaGreatDoorJoin29
import Derived.Test.YthfilnflgahcjaaGreatDoorTellN
namespace Go.Proofs.YthfilnflgahcjaaGreatDoor
open Go.RowKit Go.Shelf Go.Lib
set_option linter.all false
def Zg8 (c:UInt8):List UInt8 :=
 if c=39\/c=92 then [92,c] else if c=10 then [92,110] else if c=9 then [92,116] else if c=13 then [92,114] else if c<32\/c=127 then [92,117,48,48,Ziz (c.toNat / 16),Ziz (c.toNat % 16)] else [c]
theorem Jbf (c:UInt8):1<=(Zg8 c).length/\(Zg8 c).length<=6:=by
 unfold Zg8
 split
 ·simp
 ·split
  ·simp
  ·split
   ·simp
   ·split
    ·simp
    ·split<;>simp
def Zbj (l:List UInt8):List UInt8:=(l.map Zg8).flatten
theorem Zr6 (l:List UInt8) (c:UInt8):Zbj (l++[c])=Zbj l++Zg8 c:=by simp [Zbj]
theorem Zmz (l:List UInt8):(Zbj l).length<=6*l.length:=by
 induction l with
 | nil=>simp [Zbj]
 | cons c r ih =>
  have:=(Jbf c).2
  simp only [Zbj,List.map_cons,List.flatten_cons,List.length_append,List.length_cons] at ih |-
  omega
def Zhe (s:ByteArray):List UInt8:=[39]++Zbj s.data.toList++[39]
theorem Zvm {c:UInt8} {k:Nat} (hk:k<256) (h:c.toNat=k):c=UInt8.ofNat k:=by
 rw [<- h];simp
set_option maxRecDepth 100000 in
set_option maxHeartbeats 4000000 in
theorem Zvn (c:UInt8) (base n:Nat) (v:Value) (xs:List Value) (w:World) (b:w.ownsRow base 5 1 v n xs) (hB:base<=w.heap.size) (hn:n<=100000000000) :
  Calls Tryz.prog 240 #[v,.int .u8 (c.toNat:Int)] w fun e w'=>∃ X,e=.returned X/\Zaa base n xs v w (Zg8 c) X w':=by
 obtain ⟨m,hm⟩:∃ m,c.toNat=m:=⟨_,rfl⟩
 have a5:m<256:=by rw [<- hm];exact c.toNat_lt
 rw [hm]
 have HM:=Za hm
 have HO:=Za b
 go_enter Tryz.func240,Tryz.ntmps240
 by_cases O:m=39\/m=92
 ·have C:Hid (Zg8 c=[92,c]):=by
   show _=_
   have:c=39\/c=92:=O.imp (fun h=>Zvm (by omega) (hm.trans h)) (fun h=>Zvm (by omega) (hm.trans h))
   unfold Zg8;rw [if_pos this]
  obtain ⟨o,g⟩:∃ o,w.alloc (.cells #[.int .u8 92,.int .u8 (m:Int)] 5)=o:=⟨_,rfl⟩
  have f:Below w.heap.size w o:=g▸(Below.refl _ _).alloc (Nat.le_refl _) _
  have d:=Zcl b f
  have B:base<=o.heap.size:=Nat.le_trans hB f.size
  have z:∀ j u,(byteCells [92,c])[j]?=some u->o.cell? ((⟨w.heap.size,0,none⟩:Addr).add j)=some u:=fun j u I=>by
   rw [<- g,Lib.add_plain,Nat.zero_add]
   refine Zh _ _ _ _ _ ?_
   simpa [byteCells,hm] using I
  have x:=Za f
  have q:=Za g
  clear g f hm b
  by_cases h39:m=39
  ·have Y:((m:Int)==39)=true:=by simp;omega
   clear O h39
   go_wp2_with (at_builtin;rw [q.out];refine Zcs o rfl _ _ rfl base n v xs rfl d ⟨w.heap.size,0,none⟩ 2 2 [92,c] rfl rfl z (by omega) B ?_;intro t w1 ht)
   have p:Hid (Zaa base n xs v w (Zg8 c) t w1):=by show Zaa _ _ _ _ _ _ _ _;rw [C.out];exact ht.from x.out
   clear ht
   go_ret
   exact ⟨_,rfl,p.out⟩
  ·have Y:((m:Int)==39)=false:=by simp;omega
   have a6:((m:Int)==92)=true:=by simp;omega
   clear O h39
   go_wp2_with (at_builtin;rw [q.out];refine Zcs o rfl _ _ rfl base n v xs rfl d ⟨w.heap.size,0,none⟩ 2 2 [92,c] rfl rfl z (by omega) B ?_;intro t w1 ht)
   have p:Hid (Zaa base n xs v w (Zg8 c) t w1):=by show Zaa _ _ _ _ _ _ _ _;rw [C.out];exact ht.from x.out
   clear ht
   go_ret
   exact ⟨_,rfl,p.out⟩
 have Y:((m:Int)==39)=false:=by simp;omega
 have a6:((m:Int)==92)=false:=by simp;omega
 have y:¬ (c=39\/c=92):=fun h=>O (h.imp (fun e=>by rw [<- hm,e];rfl) (fun e=>by rw [<- hm,e];rfl))
 by_cases P:m=10
 ·have C:Hid (Zg8 c=[92,110]):=by
   show _=_
   unfold Zg8;rw [if_neg y,if_pos (show c=10 from Zvm (k:=10) (by decide) (hm.trans P))]
  subst P
  go_wp2_with (at_builtin;refine Zab w rfl _ _ rfl base n v xs rfl b ⟨#[92,110]⟩ rfl (by decide) (by show n+2<=_;omega) hB ?_;intro t w1 ht)
  have p:Hid (Zaa base n xs v w (Zg8 c) t w1):=by show Zaa _ _ _ _ _ _ _ _;rw [C.out];exact ht
  clear ht
  go_ret
  exact ⟨_,rfl,p.out⟩
 have b3:((m:Int)==10)=false:=by simp;omega
 have A:¬ c=10:=fun h=>P (by rw [<- hm,h];rfl)
 by_cases h3:m=9
 ·have C:Hid (Zg8 c=[92,116]):=by
   show _=_
   unfold Zg8;rw [if_neg y,if_neg A,if_pos (show c=9 from Zvm (k:=9) (by decide) (hm.trans h3))]
  subst h3
  go_wp2_with (at_builtin;refine Zab w rfl _ _ rfl base n v xs rfl b ⟨#[92,116]⟩ rfl (by decide) (by show n+2<=_;omega) hB ?_;intro t w1 ht)
  have p:Hid (Zaa base n xs v w (Zg8 c) t w1):=by show Zaa _ _ _ _ _ _ _ _;rw [C.out];exact ht
  clear ht
  go_ret
  exact ⟨_,rfl,p.out⟩
 have g9:((m:Int)==9)=false:=by simp;omega
 have E:¬ c=9:=fun h=>h3 (by rw [<- hm,h];rfl)
 by_cases h4:m=13
 ·have C:Hid (Zg8 c=[92,114]):=by
   show _=_
   unfold Zg8;rw [if_neg y,if_neg A,if_neg E,if_pos (show c=13 from Zvm (k:=13) (by decide) (hm.trans h4))]
  subst h4
  go_wp2_with (at_builtin;refine Zab w rfl _ _ rfl base n v xs rfl b ⟨#[92,114]⟩ rfl (by decide) (by show n+2<=_;omega) hB ?_;intro t w1 ht)
  have p:Hid (Zaa base n xs v w (Zg8 c) t w1):=by show Zaa _ _ _ _ _ _ _ _;rw [C.out];exact ht
  clear ht
  go_ret
  exact ⟨_,rfl,p.out⟩
 have b2:((m:Int)==13)=false:=by simp;omega
 have F:¬ c=13:=fun h=>h4 (by rw [<- hm,h];rfl)
 by_cases h5:m<32\/m=127
 ·have C:Hid (Zg8 c=[92,117,48,48,Ziz (m / 16),Ziz (m % 16)]):=by
   show _=_
   have:c<32\/c=127:=h5.imp (fun h=>UInt8.lt_iff_toNat_lt.2 (by rw [hm];exact h)) (fun h=>Zvm (by omega) (hm.trans h))
   unfold Zg8;rw [if_neg y,if_neg A,if_neg E,if_neg F,if_pos this,hm]
  have K:m<128:=by omega
  clear y A E F O P h3 h4
  have b1:(decide ((m:Int)<32)||((m:Int)==127))=true:=by
   rcases h5 with h | h
   ·simp;omega
   ·simp;omega
  rcases h5 with h | h
  ·have U:(m:Int)<32:=by omega
   go_upto_region 10 with fail
   show (Code.region 10 Zdq true).wp _ _ _ _
   refine Zp9 base n m v xs w _ _ ⟨rfl,rfl,rfl⟩ ⟨HO.out,hB,hn,K⟩ ?_
   intro a w1 V ht
   have p:Hid (Zaa base n xs v w (Zg8 c) (a.eval (.tmp 4)) w1):=by show Zaa _ _ _ _ _ _ _ _;rw [C.out];exact ht
   have hl:a=⟨#[v,Value.int IntKind.u8 ↑m,undef,undef,a.eval (.tmp 4),Value.bool false,Value.int IntKind.u8 ↑m,Value.bool false,Value.bool false,Value.int IntKind.u8 ↑m,Value.bool false,Value.bool false,undef,undef,undef,undef,Value.bool false,Value.int IntKind.u8 ↑m,Value.bool false,undef,undef,Value.bool false,Value.int IntKind.u8 ↑m,Value.bool false,undef,undef,Value.bool false,Value.int IntKind.u8 ↑m,Value.bool false,undef,undef,Value.bool true,Value.int IntKind.u8 ↑m,Value.bool true,Value.bool true,undef,undef,Value.bool true,a.eval (.tmp 38),a.eval (.tmp 39),a.eval (.tmp 40),a.eval (.tmp 41),a.eval (.tmp 42),a.eval (.tmp 43),a.eval (.tmp 44),a.eval (.tmp 45),a.eval (.tmp 46),a.eval (.tmp 47),undef,undef,undef,undef],[]⟩:=(Zgp V).trans (by kernel_rfl)
   generalize a.eval (.tmp 4)=t at hl p
   generalize a.eval (.tmp 38)=z38 at hl
   generalize a.eval (.tmp 39)=z39 at hl
   generalize a.eval (.tmp 40)=z40 at hl
   generalize a.eval (.tmp 41)=z41 at hl
   generalize a.eval (.tmp 42)=z42 at hl
   generalize a.eval (.tmp 43)=z43 at hl
   generalize a.eval (.tmp 44)=z44 at hl
   generalize a.eval (.tmp 45)=z45 at hl
   generalize a.eval (.tmp 46)=z46 at hl
   generalize a.eval (.tmp 47)=z47 at hl
   clear V ht
   subst hl
   go_wp2_with fail
   go_ret
   exact ⟨_,rfl,p.out⟩
  ·have U:¬ (m:Int)<32:=by omega
   have R:((m:Int)==127)=true:=by simp;omega
   go_upto_region 10 with fail
   show (Code.region 10 Zdq true).wp _ _ _ _
   refine Zp9 base n m v xs w _ _ ⟨rfl,rfl,rfl⟩ ⟨HO.out,hB,hn,K⟩ ?_
   intro a w1 V ht
   have p:Hid (Zaa base n xs v w (Zg8 c) (a.eval (.tmp 4)) w1):=by show Zaa _ _ _ _ _ _ _ _;rw [C.out];exact ht
   have hl:a=⟨#[v,Value.int IntKind.u8 ↑m,undef,undef,a.eval (.tmp 4),Value.bool false,Value.int IntKind.u8 ↑m,Value.bool false,Value.bool false,Value.int IntKind.u8 ↑m,Value.bool false,Value.bool false,undef,undef,undef,undef,Value.bool false,Value.int IntKind.u8 ↑m,Value.bool false,undef,undef,Value.bool false,Value.int IntKind.u8 ↑m,Value.bool false,undef,undef,Value.bool false,Value.int IntKind.u8 ↑m,Value.bool false,undef,undef,Value.bool true,Value.int IntKind.u8 ↑m,Value.bool false,Value.bool false,Value.int IntKind.u8 ↑m,Value.bool true,Value.bool true,a.eval (.tmp 38),a.eval (.tmp 39),a.eval (.tmp 40),a.eval (.tmp 41),a.eval (.tmp 42),a.eval (.tmp 43),a.eval (.tmp 44),a.eval (.tmp 45),a.eval (.tmp 46),a.eval (.tmp 47),undef,undef,undef,undef],[]⟩:=(Zgp V).trans (by kernel_rfl)
   generalize a.eval (.tmp 4)=t at hl p
   generalize a.eval (.tmp 38)=z38 at hl
   generalize a.eval (.tmp 39)=z39 at hl
   generalize a.eval (.tmp 40)=z40 at hl
   generalize a.eval (.tmp 41)=z41 at hl
   generalize a.eval (.tmp 42)=z42 at hl
   generalize a.eval (.tmp 43)=z43 at hl
   generalize a.eval (.tmp 44)=z44 at hl
   generalize a.eval (.tmp 45)=z45 at hl
   generalize a.eval (.tmp 46)=z46 at hl
   generalize a.eval (.tmp 47)=z47 at hl
   clear V ht
   subst hl
   go_wp2_with fail
   go_ret
   exact ⟨_,rfl,p.out⟩
 ·have C:Hid (Zg8 c=[c]):=by
   show _=_
   have:¬ (c<32\/c=127):=fun h=>h5 (h.imp (fun e=>by rw [<- hm];exact UInt8.lt_iff_toNat_lt.1 e) (fun e=>by rw [<- hm,e];rfl))
   unfold Zg8;rw [if_neg y,if_neg A,if_neg E,if_neg F,if_neg this]
  have U:¬ (m:Int)<32:=by omega
  have R:((m:Int)==127)=false:=by simp;omega
  obtain ⟨o,g⟩:∃ o,w.alloc (.cells #[.int .u8 (m:Int)] 5)=o:=⟨_,rfl⟩
  have f:Below w.heap.size w o:=g▸(Below.refl _ _).alloc (Nat.le_refl _) _
  have d:=Zcl b f
  have B:base<=o.heap.size:=Nat.le_trans hB f.size
  have z:∀ j u,(byteCells [c])[j]?=some u->o.cell? ((⟨w.heap.size,0,none⟩:Addr).add j)=some u:=fun j u I=>by
   rw [<- g,Lib.add_plain,Nat.zero_add]
   refine Zh _ _ _ _ _ ?_
   simpa [byteCells,hm] using I
  have x:=Za f
  have q:=Za g
  clear g f hm b O P h3 h4 h5 y A E F
  go_wp2_with (at_builtin;rw [q.out];refine Zcs o rfl _ _ rfl base n v xs rfl d ⟨w.heap.size,0,none⟩ 1 1 [c] rfl rfl z (by omega) B ?_;intro t w1 ht)
  have p:Hid (Zaa base n xs v w (Zg8 c) t w1):=by show Zaa _ _ _ _ _ _ _ _;rw [C.out];exact ht.from x.out
  clear ht
  go_ret
  exact ⟨_,rfl,p.out⟩
theorem Jbg (s:ByteArray) (j:Nat) (h:j<s.size):s.data.toList[j]?=some s[j]:=by
 rw [List.getElem?_eq_getElem (by simpa using h)]
 rfl
set_option maxRecDepth 100000 in
set_option maxHeartbeats 4000000 in
theorem Zx0 (s:ByteArray) (hs:s.size<=10000000000) (base n:Nat) (v:Value) (xs:List Value) (w:World) (b:w.ownsRow base 5 1 v n xs) (hB:base<=w.heap.size) (hn:n<=10000000000) :
  Calls Tryz.prog 203 #[v,.string s] w fun e w'=>∃ X,e=.returned X/\Zaa base n xs v w (Zhe s) X w':=by
 obtain ⟨o,g⟩:∃ o,w.alloc (.cells #[.int .u8 39] 5)=o:=⟨_,rfl⟩
 have f:Below w.heap.size w o:=g▸(Below.refl _ _).alloc (Nat.le_refl _) _
 have d:=Zcl b f
 have B:base<=o.heap.size:=Nat.le_trans hB f.size
 have z:∀ j u,(byteCells [39])[j]?=some u->o.cell? ((⟨w.heap.size,0,none⟩:Addr).add j)=some u:=fun j u I=>by
  rw [<- g];exact cell_one_new w (.int .u8 39) 5 j u I
 have x:=Za f
 have q:=Za g
 have HO:=Za b
 clear g f b
 go_enter Tryz.func203,Tryz.ntmps203
 go_wp2_with (at_builtin;rw [q.out];refine Zcs o rfl _ _ rfl base n v xs rfl d ⟨w.heap.size,0,none⟩ 1 1 [39] rfl rfl z (by omega) B ?_;intro t w1 ht)
 have M:Hid (Zaa base n xs v w [39] t w1):=ht.from x.out
 clear ht d z q x
 go_loopw [11,0] (fun i r wr=>∃ j:Nat,j<=s.size/\i=.int .i64 j/\Zaa base n xs v w ([39]++Zbj (s.data.toList.take j)) r wr) (fun i _ _=>s.size - (RowKit.intOf i).toNat)
 case atStart=>exact ⟨0,Nat.zero_le _,rfl,by simpa [Zbj] using M.out⟩
 case round =>
  obtain ⟨j,I,rfl,D⟩:=hrel
  have N:=Za D
  have b0:([39]++Zbj (s.data.toList.take j)).length<=6*s.size+1:=by
   have O:=Zmz (s.data.toList.take j)
   have P:(s.data.toList.take j).length<=s.size:=by rw [List.length_take];show min j s.size<=_;omega
   simp only [List.length_append,List.length_cons,List.length_nil]
   omega
  have W:base<=wr.heap.size:=Nat.le_trans hB D.grown.size
  by_cases hlt:j<s.size
  ·have HC:=Za (Zvn s[j] base _ u0 _ wr D.own W (by omega))
   have a4:=Za (Jbg s j hlt)
   clear D M
   have a3:(j:Int)<s.size:=by omega
   go_wp2_with fail
   refine HC.out.mono ?_
   rintro e w2 ⟨v2,rfl,S⟩
   have a9:Hid (Zaa base n xs v w ([39]++Zbj (s.data.toList.take (j+1))) v2 w2):=by
    show Zaa _ _ _ _ _ _ _ _
    rw [List.take_add_one,a4.out]
    show Zaa _ _ _ _ _ ([39]++Zbj (_++[s[j]])) _ _
    rw [Zr6,<- List.append_assoc]
    exact N.out.trans S
   clear S HC N
   go_wp2_with fail
   go_roundw
   case rel=>exact ⟨j+1,by omega,by go_num,a9.out⟩
   case measure=>simp [RowKit.intOf];omega
  ·have a3:¬ (j:Int)<s.size:=by omega
   obtain ⟨Q,H⟩:∃ Q,wr.alloc (.cells #[.int .u8 39] 5)=Q:=⟨_,rfl⟩
   have G:Below wr.heap.size wr Q:=H▸(Below.refl _ _).alloc (Nat.le_refl _) _
   have L:=Zcl D.own G
   have a7:base<=Q.heap.size:=Nat.le_trans W G.size
   have a2:∀ j u,(byteCells [39])[j]?=some u->Q.cell? ((⟨wr.heap.size,0,none⟩:Addr).add j)=some u:=fun j u I=>by
    rw [<- H];exact cell_one_new wr (.int .u8 39) 5 j u I
   have a1:=Za G
   have a8:=Za H
   have HQ:Hid (Zhe s=([39]++Zbj (s.data.toList.take j))++[39]):=by
    show _=_
    rw [List.take_of_length_le (by show s.size<=j;omega)];rfl
   clear H G D M
   go_wp2_with (at_builtin;rw [a8.out];refine Zcs Q rfl _ _ rfl base _ u0 _ rfl L ⟨wr.heap.size,0,none⟩ 1 1 [39] rfl rfl a2 (by omega) a7 ?_;intro v4 w4 T)
   have a0:Hid (Zaa base n xs v w (Zhe s) v4 w4):=by
    show Zaa _ _ _ _ _ _ _ _
    rw [HQ.out]
    exact N.out.trans (T.from a1.out)
   clear T
   go_ret
   exact ⟨_,rfl,a0.out⟩
end Go.Proofs.YthfilnflgahcjaaGreatDoor

namespace Go.Proofs.YthfilnflgahcjaaGreatDoor
open Go.RowKit Go.Shelf Go.Lib
set_option linter.all false
structure TBG (base:Nat) (w:World):Prop where
 env:∀ w',Below base w w'->Zyf w'
 pow:TabBelow Tryz.prog base w "internal/strconv.uint64pow10" .u64 pow10Tab
theorem TBG.on {base:Nat} {w w':World} (h:TBG base w) (hb:Below base w w'):TBG base w':=⟨fun w2 h2=>h.env w2 (hb.trans h2),h.pow.on hb⟩
theorem TBG.tb {base:Nat} {w:World} (h:TBG base w):TB base w:=⟨fun w' hb=>(h.env w' hb).e.tabs,h.pow⟩
mutual
def Jk:Zd->List UInt8
 | .mk k b n s ks ts=>if k=1 then Zcm b else if k=2 then itoa n else if k=3 then Zhe s else if k=4 then [91]++tellAllG false ks 0 ts++[93] else if k=5 then [123]++tellAllG true ks 0 ts++[125] else if k=6 then [60,110]++itoa n++[62] else if k=7 then [60,114]++itoa n++[62] else [110,117,108,108]
def tellAllG (mp:Bool) (ks:List ByteArray):Nat->List Zd->List UInt8
 | _,[]=>[]
 | i,t::ts=>(if i=0 then [] else [44,32])++(if mp then (Zaq (ks.getD i ⟨#[]⟩)).data.toList++[58,32] else [])++Jk t++tellAllG mp ks (i+1) ts
end
def Zga (mp:Bool) (ks:List ByteArray) (i:Nat) (t:Zd):List UInt8:=(if i=0 then [] else [44,32])++(if mp then (Zaq (ks.getD i ⟨#[]⟩)).data.toList++[58,32] else [])++Jk t
theorem Zid (mp:Bool) (ks:List ByteArray) (t:Zd):∀ (l:List Zd) (i:Nat),tellAllG mp ks i (l++[t])=tellAllG mp ks i l++Zga mp ks (i+l.length) t
 | [],i=>by simp [tellAllG,Zga]
 | u::l,i=>by
  rw [List.cons_append,tellAllG,tellAllG,Zid mp ks t l (i+1),List.length_cons]
  simp only [List.append_assoc]
  rw [show i+1+l.length=i+(l.length+1) by omega]
def Zrv (T:Zd):Prop:=∀ (base n:Nat) (v:Value) (xs:List Value) (tv:Value) (w:World),w.ownsRow base 5 1 v n xs->base<=w.heap.size->Zb6 base w tv T->TBG base w->n+(Jk T).length<=1000000000 ->
 Calls Tryz.prog 152 #[v,tv] w fun e w'=>∃ v',e=.returned v'/\Zaa base n xs v w (Jk T) v' w'
def Jcp (s:ByteArray):Prop:=s.size<=100000000/\validD s.data.toList=true/\True
theorem Zob {mp:Bool} {ks:List ByteArray} {ts:List Zd} {j:Nat} {t:Zd} (h:ts[j]?=some t):tellAllG mp ks 0 (ts.take (j+1))=tellAllG mp ks 0 (ts.take j)++Zga mp ks j t:=by
 rw [List.take_add_one,h]
 have hj:j<ts.length:=(List.getElem?_eq_some_iff.1 h).1
 have:=Zid mp ks t (ts.take j) 0
 rw [Nat.zero_add,List.length_take,Nat.min_eq_left (by omega)] at this
 exact this
theorem Zlb {mp:Bool} {ks:List ByteArray}:∀ {a b:List Zd} {i:Nat},(tellAllG mp ks i a).length<=(tellAllG mp ks i (a++b)).length
 | [],b,i=>by simp [tellAllG]
 | u::a,b,i=>by
  have:=Zlb (mp:=mp) (ks:=ks) (a:=a) (b:=b) (i:=i+1)
  rw [List.cons_append,tellAllG,tellAllG]
  simp only [List.length_append]
  omega
theorem Zj4 {mp:Bool} {ks:List ByteArray} {ts:List Zd} (j:Nat):(tellAllG mp ks 0 (ts.take j)).length<=(tellAllG mp ks 0 ts).length:=by
 have:=Zlb (mp:=mp) (ks:=ks) (a:=ts.take j) (b:=ts.drop j) (i:=0)
 rwa [List.take_append_drop] at this
set_option maxRecDepth 100000 in
set_option maxHeartbeats 4000000 in
theorem Zjs (k:Int) (b:Bool) (nn:Int) (s:ByteArray) (ks:List ByteArray) (ts:List Zd) (ih:∀ t ∈ ts,Zrv t) (d7:k=5->ks.length=ts.length/\∀ x ∈ ks,Jcp x) (base n:Nat) (v:Value) (xs:List Value) (tv:Value) (w:World)
  (b1:w.ownsRow base 5 1 v n xs) (hB:base<=w.heap.size) (hl:Zb6 base w tv (.mk k b nn s ks ts)) (e9:TBG base w) (hn:n+(tellAllG (decide (k=5)) ks 0 ts).length<=1000000000) :
  Calls Tryz.prog 204 #[v,tv] w fun e w'=>∃ v',e=.returned v'/\Zaa base n xs v w (tellAllG (decide (k=5)) ks 0 ts) v' w':=by
 simp only [Zb6] at hl
 obtain ⟨ka,kc,la,lc,rfl,⟨g6,g8,f9,g7,f6⟩,hk,ht⟩:=hl
 obtain ⟨W1,c6⟩:∃ W1,w.alloc (.cells #[.int .i64 k,.bool b,.int .i64 nn,.string s,.slice ka ks.length kc,.slice la ts.length lc] 88)=W1:=⟨_,rfl⟩
 have K:Below w.heap.size w W1:=c6▸(Below.refl _ _).alloc (Nat.le_refl _) _
 have P:W1.heap[w.heap.size]?=some (.cells #[.int .i64 k,.bool b,.int .i64 nn,.string s,.slice ka ks.length kc,.slice la ts.length lc] 88 (0,0)):=c6▸World.alloc_heap_new _ _
 have m:=Zcl b1 K
 have a3:base<=W1.heap.size:=Nat.le_trans hB K.size
 have f5:=Za c6
 have HX:=Za (And.intro K (And.intro P (And.intro m a3)))
 have HK:=Za hk
 have HT:=Za ht
 have d3:=Za d7
 have f7:=Za ih
 have a2:=Za e9
 have g0:=Za b1
 have HN:=Za hn
 clear c6 K P m hk ht d7 ih e9 b1 hn
 unfold maxLen at f9 f6
 go_enter Tryz.func204,Tryz.ntmps204
 go_wp2_with fail
 rw [f5.out]
 go_loopw [0,10] (fun r i wr=>∃ j:Nat,j<=ts.length/\i=.int .i64 j/\Zaa base n xs v W1 (tellAllG (decide (k=5)) ks 0 (ts.take j)) r wr) (fun _ i _=>ts.length - (RowKit.intOf i).toNat)
 case atStart=>exact ⟨0,Nat.zero_le _,rfl,by have:=Zdf HX.out.2.2.1;simpa [tellAllG] using this⟩
 case round =>
  obtain ⟨j,hj,rfl,N⟩:=hrel
  revert u0
  intro r N
  by_cases hlt:j<ts.length
  ·obtain ⟨⟨p0,p1,p2,p3,U,S⟩,hx⟩:∃ t,ts[j]?=some t:=⟨_,List.getElem?_eq_getElem hlt⟩
   obtain ⟨K,P,m,a3⟩:=HX.out
   have d9:Below base W1 wr:=N.below m a3
   have e6:Below base w wr:=(K.mono hB).trans d9
   obtain ⟨bl,off,rfl,L,M⟩:=HT.out.resolve_left (by intro e;rw [e] at hlt;simp at hlt)
   obtain ⟨ja,jc,jl,jd,⟨c0,c1,c2,c3,c4,c5⟩,f1⟩:=(M.below e6 L).cells hx
   have e1:=N.box m P
   have d0:=Zbi e1 (i:=0) rfl
   have d4:=Zbi e1 (i:=4) rfl
   have e3:base<=wr.heap.size:=Nat.le_trans a3 N.grown.size
   have g3:w.heap.size<wr.heap.size:=Jj d0
   have g2:w.heap.size≠wr.heap.size:=by omega
   obtain ⟨q,c9⟩:∃ q,wr.alloc (.cells #[.int .i64 p0,.bool p1,.int .i64 p2,.string p3,.slice ja U.length jc,.slice jl S.length jd] 88)=q:=⟨_,rfl⟩
   have b7:Below wr.heap.size wr q:=c9▸(Below.refl _ _).alloc (Nat.le_refl _) _
   have f2:q.heap[wr.heap.size]?=some (.cells #[.int .i64 p0,.bool p1,.int .i64 p2,.string p3,.slice ja U.length jc,.slice jl S.length jd] 88 (0,0)):=c9▸World.alloc_heap_new _ _
   have b8:Zaa base n xs v W1 (tellAllG (decide (k=5)) ks 0 (ts.take j)) r q:=N.upto b7
   have d8:q.heap[w.heap.size]?=some (.cells #[.int .i64 k,.bool b,.int .i64 nn,.string s,.slice ka ks.length kc,.slice (some ⟨bl,off,none⟩) ts.length lc] 88 (0,0)):=b8.box m P
   have c7:=Zob (mp:=decide (k=5)) (ks:=ks) hx
   have c8:=Zj4 (mp:=decide (k=5)) (ks:=ks) (ts:=ts) (j+1)
   rw [c7,List.length_append] at c8
   have f0:=HN.out
   obtain ⟨A,hA⟩:∃ A,tellAllG (decide (k=5)) ks 0 (ts.take j)=A:=⟨_,rfl⟩
   rw [hA] at b8 c7 c8
   have d6:q.ownsRow base 5 1 r (n+A.length) (xs++byteCells A):=b8.own
   have e7:base<=q.heap.size:=Nat.le_trans e3 b7.size
   have e8:Zb6 base q (.agg #[.int .i64 p0,.bool p1,.int .i64 p2,.string p3,.slice ja U.length jc,.slice jl S.length jd]) (.mk p0 p1 p2 p3 U S):=f1.below (b7.mono e3)
   have d5:Below base w q:=e6.trans (b7.mono e3)
   have d1:=Za b8
   have b9:=Za c7
   have b3:=Za c9
   have a1:=Za (f7.out _ (List.mem_of_getElem? hx))
   have HA:=Za (And.intro d6 (And.intro e7 (And.intro e8 (And.intro d5 (And.intro f2 d8)))))
   have d2:=Za (And.intro c8 f0)
   clear N hx M f1 e1 b7 f2 b8 d8 c7 c8 f0 hA d6 e7 e8 d5 c9 e6 d9 K P m
   by_cases hj0:j=0
   ·by_cases hk5:k=5
    ·have e4:(k==5)=true:=by simp [hk5]
     have o:Zga (decide (k=5)) ks j (.mk p0 p1 p2 p3 U S)=(Zaq (ks.getD j ⟨#[]⟩)).data.toList++([58,32]++(Jk (.mk p0 p1 p2 p3 U S))):=by simp [Zga,hj0,hk5]
     have c:=d2.out
     rw [o] at c
     try simp only [List.length_append,List.length_cons,List.length_nil,Zfd] at c
     have O:=Za o
     have Y:=Za hj0
     clear o hj0
     obtain ⟨d,f,W,C,F,H⟩:=HA.out
     have hz:¬ (0:Int)<(j:Int):=by have:=Y.out;omega
     obtain ⟨M,b0⟩:=d3.out hk5
     obtain ⟨kb,ko,rfl,a6,b2⟩:=HK.out.resolve_left (by intro e;rw [e] at M;simp at M;omega)
     obtain ⟨D,a4⟩:=b2 j (by omega)
     obtain ⟨y,hy⟩:∃ y,ks.getD j ⟨#[]⟩=y:=⟨_,rfl⟩
     have b6:y ∈ ks:=by
      rw [<- hy,List.getD_eq_getElem?_getD,List.getElem?_eq_getElem (by omega)]
      exact List.getElem_mem _
     obtain ⟨a9,b5,a5⟩:=b0 y b6
     rw [hy] at O c D
     have f4:j<ks.length:=by omega
     have a0:=Za (And.intro a6 D)
     have HY:=Za (And.intro a9 (And.intro b5 a5))
     clear b2 D a4 b0 a9 b5 a5 b6 a6 M
     have g:=Za c
     have e0:=Za hk5
     clear c hk5
     have f3:=(C.cell (p:=⟨kb,ko+j,none⟩) a0.out.1).trans a0.out.2
     have z:Hid (Zaa base (n+A.length) (xs++byteCells A) r q [] r q):=Zdf d
     have g5:wr.cell? ⟨kb,ko+j,none⟩=some (.string y):=by
      have:=a0.out.1
      rw [<- f3,<- b3.out]
      exact (World.cell?_alloc_lt wr _ _ (by show kb<_;omega)).symm
     have g1:kb<wr.heap.size:=by have:=a0.out.1;omega
     have g4:kb≠wr.heap.size:=by omega
     go_wp2_with fail
     rw [b3.out]
     refine (Zqu y (by have:=HY.out.1;omega) HY.out.2.1 q (a2.out.env _ (C.trans (z.out.below d f)))).mono ?_
     rintro e w2 ⟨rfl,a7⟩
     have I:Hid (Zaa base (n+A.length) (xs++byteCells A) r q ([]:List UInt8) r w2):=z.out.upto a7
     have e5:w2.ownsRow base 5 1 r (n+A.length+([]:List UInt8).length) (xs++byteCells A++byteCells ([]:List UInt8)):=I.out.own
     have b4:base<=w2.heap.size:=by have:=I.out.grown.size;omega
     obtain ⟨y0,y1,y2,y3,y4,y5⟩:=boxes I.out d F
     obtain ⟨x0,x1,x2,x3,x4,x5⟩:=boxes I.out d H
     clear a7
     have e2:(Zaq y).data.toList.length=(Zaq y).size:=rfl
     go_wp2_with (first | (at_builtin;refine Zab w2 rfl _ _ rfl base (n+A.length+([]:List UInt8).length) r (xs++byteCells A++byteCells ([]:List UInt8)) rfl e5 (Zaq y) rfl (Zqt y) (by have:=g.out;simp only [List.length_cons,List.length_nil];omega) b4 ?_;intro v3 w3 a8;have G:=Za (I.out.trans a8);obtain ⟨y0,y1,y2,y3,y4,y5⟩:=boxes G.out d F) | (at_builtin;refine Zab w3 rfl _ _ rfl base _ v3 _ rfl G.out.own ⟨#[58,32]⟩ rfl (by decide) (by have:=g.out;simp only [List.length_append,List.length_cons,List.length_nil,e2];show _+2<=_;omega) (by have:=G.out.grown.size;omega) ?_;intro v4 w4 X;obtain ⟨y0,y1,y2,y3,y4,y5⟩:=boxes (G.out.trans X) d F))
     have B:Hid (Zaa base (n+A.length) (xs++byteCells A) r q (([]:List UInt8)++(Zaq y).data.toList++[58,32]) v4 w4):=G.out.trans X
     clear a8 X
     have L:Below base w w4:=C.trans (B.out.below d f)
     have Q:=B.out.own
     refine (a1.out base _ v4 _ _ w4 Q (by have:=B.out.grown.size;omega) (W.below (B.out.below d f)) (a2.out.on L) (by have:=g.out;simp only [List.length_append,List.length_cons,List.length_nil,Zfd];omega)).mono ?_
     rintro e w9 ⟨v9,rfl,E⟩
     have V:Hid (Zaa base (n+A.length) (xs++byteCells A) r q ((([]:List UInt8)++(Zaq y).data.toList++[58,32])++Jk (.mk p0 p1 p2 p3 U S)) v9 w9):=B.out.trans E
     clear Q L
     clear E
     go_wp2_with fail
     go_roundw
     case rel =>
      refine ⟨j+1,by omega,by go_num,?_⟩
      rw [b9.out,O.out]
      have h9:=d1.out.trans V.out
      simpa only [List.nil_append,List.append_assoc] using h9
     case measure=>simp [RowKit.intOf];omega
    ·have e4:(k==5)=false:=by simp [hk5]
     have o:Zga (decide (k=5)) ks j (.mk p0 p1 p2 p3 U S)=Jk (.mk p0 p1 p2 p3 U S):=by simp [Zga,hj0,hk5]
     have c:=d2.out
     rw [o] at c
     try simp only [List.length_append,List.length_cons,List.length_nil,Zfd] at c
     have O:=Za o
     have Y:=Za hj0
     clear o hj0
     obtain ⟨d,f,W,C,F,H⟩:=HA.out
     have hz:¬ (0:Int)<(j:Int):=by have:=Y.out;omega
     have g:=Za c
     have e0:=Za hk5
     clear c hk5
     go_wp2_with fail
     rw [b3.out]
     have f8:=Zdf d
     have HU:Hid (Zaa base (n+A.length) (xs++byteCells A) r q [] r q):=f8
     refine (a1.out base (n+A.length) r (xs++byteCells A) _ q d f W (a2.out.on C) (by have:=g.out;omega)).mono ?_
     rintro e w9 ⟨v9,rfl,E⟩
     have V:Hid (Zaa base (n+A.length) (xs++byteCells A) r q (Jk (.mk p0 p1 p2 p3 U S)) v9 w9):=E
     clear E
     go_wp2_with fail
     go_roundw
     case rel =>
      refine ⟨j+1,by omega,by go_num,?_⟩
      rw [b9.out,O.out]
      have h9:=d1.out.trans V.out
      simpa only [List.nil_append,List.append_assoc] using h9
     case measure=>simp [RowKit.intOf];omega
   ·by_cases hk5:k=5
    ·have e4:(k==5)=true:=by simp [hk5]
     have o:Zga (decide (k=5)) ks j (.mk p0 p1 p2 p3 U S)=[44,32]++((Zaq (ks.getD j ⟨#[]⟩)).data.toList++([58,32]++(Jk (.mk p0 p1 p2 p3 U S)))):=by simp [Zga,hj0,hk5]
     have c:=d2.out
     rw [o] at c
     try simp only [List.length_append,List.length_cons,List.length_nil,Zfd] at c
     have O:=Za o
     have Y:=Za hj0
     clear o hj0
     obtain ⟨d,f,W,C,F,H⟩:=HA.out
     have hz:(0:Int)<(j:Int):=by have:=Y.out;omega
     obtain ⟨M,b0⟩:=d3.out hk5
     obtain ⟨kb,ko,rfl,a6,b2⟩:=HK.out.resolve_left (by intro e;rw [e] at M;simp at M;omega)
     obtain ⟨D,a4⟩:=b2 j (by omega)
     obtain ⟨y,hy⟩:∃ y,ks.getD j ⟨#[]⟩=y:=⟨_,rfl⟩
     have b6:y ∈ ks:=by
      rw [<- hy,List.getD_eq_getElem?_getD,List.getElem?_eq_getElem (by omega)]
      exact List.getElem_mem _
     obtain ⟨a9,b5,a5⟩:=b0 y b6
     rw [hy] at O c D
     have f4:j<ks.length:=by omega
     have a0:=Za (And.intro a6 D)
     have HY:=Za (And.intro a9 (And.intro b5 a5))
     clear b2 D a4 b0 a9 b5 a5 b6 a6 M
     have g:=Za c
     have e0:=Za hk5
     clear c hk5
     go_wp2_with (at_builtin;rw [b3.out];refine Zab q rfl _ _ rfl base (n+A.length) r (xs++byteCells A) rfl d ⟨#[44,32]⟩ rfl (by decide) (by have:=g.out;show n+A.length+2<=_;omega) f ?_;intro v1 w1 R;obtain ⟨y0,y1,y2,y3,y4,y5⟩:=boxes R d F;obtain ⟨x0,x1,x2,x3,x4,x5⟩:=boxes R d H;have f3:=((C.trans (R.below d f)).cell (p:=⟨kb,ko+j,none⟩) a0.out.1).trans a0.out.2)
     have z:Hid (Zaa base (n+A.length) (xs++byteCells A) r q [44,32] v1 w1):=R
     refine (Zqu y (by have:=HY.out.1;omega) HY.out.2.1 w1 (a2.out.env _ (C.trans (z.out.below d f)))).mono ?_
     rintro e w2 ⟨rfl,a7⟩
     have I:Hid (Zaa base (n+A.length) (xs++byteCells A) r q ([44,32]:List UInt8) v1 w2):=z.out.upto a7
     have e5:w2.ownsRow base 5 1 v1 (n+A.length+([44,32]:List UInt8).length) (xs++byteCells A++byteCells ([44,32]:List UInt8)):=I.out.own
     have b4:base<=w2.heap.size:=by have:=I.out.grown.size;omega
     obtain ⟨y0,y1,y2,y3,y4,y5⟩:=boxes I.out d F
     obtain ⟨x0,x1,x2,x3,x4,x5⟩:=boxes I.out d H
     clear a7
     have e2:(Zaq y).data.toList.length=(Zaq y).size:=rfl
     go_wp2_with (first | (at_builtin;refine Zab w2 rfl _ _ rfl base (n+A.length+([44,32]:List UInt8).length) v1 (xs++byteCells A++byteCells ([44,32]:List UInt8)) rfl e5 (Zaq y) rfl (Zqt y) (by have:=g.out;simp only [List.length_cons,List.length_nil];omega) b4 ?_;intro v3 w3 a8;have G:=Za (I.out.trans a8);obtain ⟨y0,y1,y2,y3,y4,y5⟩:=boxes G.out d F) | (at_builtin;refine Zab w3 rfl _ _ rfl base _ v3 _ rfl G.out.own ⟨#[58,32]⟩ rfl (by decide) (by have:=g.out;simp only [List.length_append,List.length_cons,List.length_nil,e2];show _+2<=_;omega) (by have:=G.out.grown.size;omega) ?_;intro v4 w4 X;obtain ⟨y0,y1,y2,y3,y4,y5⟩:=boxes (G.out.trans X) d F))
     have B:Hid (Zaa base (n+A.length) (xs++byteCells A) r q (([44,32]:List UInt8)++(Zaq y).data.toList++[58,32]) v4 w4):=G.out.trans X
     clear a8 X
     have L:Below base w w4:=C.trans (B.out.below d f)
     have Q:=B.out.own
     refine (a1.out base _ v4 _ _ w4 Q (by have:=B.out.grown.size;omega) (W.below (B.out.below d f)) (a2.out.on L) (by have:=g.out;simp only [List.length_append,List.length_cons,List.length_nil,Zfd];omega)).mono ?_
     rintro e w9 ⟨v9,rfl,E⟩
     have V:Hid (Zaa base (n+A.length) (xs++byteCells A) r q ((([44,32]:List UInt8)++(Zaq y).data.toList++[58,32])++Jk (.mk p0 p1 p2 p3 U S)) v9 w9):=B.out.trans E
     clear Q L
     clear E
     go_wp2_with fail
     go_roundw
     case rel =>
      refine ⟨j+1,by omega,by go_num,?_⟩
      rw [b9.out,O.out]
      have h9:=d1.out.trans V.out
      simpa only [List.nil_append,List.append_assoc] using h9
     case measure=>simp [RowKit.intOf];omega
    ·have e4:(k==5)=false:=by simp [hk5]
     have o:Zga (decide (k=5)) ks j (.mk p0 p1 p2 p3 U S)=[44,32]++(Jk (.mk p0 p1 p2 p3 U S)):=by simp [Zga,hj0,hk5]
     have c:=d2.out
     rw [o] at c
     try simp only [List.length_append,List.length_cons,List.length_nil,Zfd] at c
     have O:=Za o
     have Y:=Za hj0
     clear o hj0
     obtain ⟨d,f,W,C,F,H⟩:=HA.out
     have hz:(0:Int)<(j:Int):=by have:=Y.out;omega
     have g:=Za c
     have e0:=Za hk5
     clear c hk5
     go_wp2_with (at_builtin;rw [b3.out];refine Zab q rfl _ _ rfl base (n+A.length) r (xs++byteCells A) rfl d ⟨#[44,32]⟩ rfl (by decide) (by have:=g.out;show n+A.length+2<=_;omega) f ?_;intro v1 w1 R;obtain ⟨y0,y1,y2,y3,y4,y5⟩:=boxes R d F;obtain ⟨x0,x1,x2,x3,x4,x5⟩:=boxes R d H)
     have z:Hid (Zaa base (n+A.length) (xs++byteCells A) r q [44,32] v1 w1):=R
     have L:Below base w w1:=C.trans (z.out.below d f)
     have Q:=z.out.own
     refine (a1.out base _ v1 _ _ w1 Q (by have:=z.out.grown.size;omega) (W.below (z.out.below d f)) (a2.out.on L) (by have:=g.out;simp only [List.length_append,List.length_cons,List.length_nil,Zfd];omega)).mono ?_
     rintro e w9 ⟨v9,rfl,E⟩
     have V:Hid (Zaa base (n+A.length) (xs++byteCells A) r q (([44,32]:List UInt8)++Jk (.mk p0 p1 p2 p3 U S)) v9 w9):=z.out.trans E
     clear Q L
     clear E
     go_wp2_with fail
     go_roundw
     case rel =>
      refine ⟨j+1,by omega,by go_num,?_⟩
      rw [b9.out,O.out]
      have h9:=d1.out.trans V.out
      simpa only [List.nil_append,List.append_assoc] using h9
     case measure=>simp [RowKit.intOf];omega
  ·obtain ⟨K,P,m,a3⟩:=HX.out
   have HF:Hid (Zaa base n xs v w (tellAllG (decide (k=5)) ks 0 ts) r wr):=by
    rw [List.take_of_length_le (by omega)] at N
    exact N.from K
   clear N K P m a3
   go_wp2_with fail
   go_ret
   exact ⟨_,rfl,HF.out⟩
end Go.Proofs.YthfilnflgahcjaaGreatDoor

