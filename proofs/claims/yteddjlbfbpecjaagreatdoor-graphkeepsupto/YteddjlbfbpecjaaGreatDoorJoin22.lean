/- The document's May: may a value be, however great? The document's Size: how many values there are, how deep, how many bytes, and the longest list. -/
import Derived.Test.YteddjlbfbpecjaaGreatDoorMay1
import Derived.Test.YteddjlbfbpecjaaGreatDoorMay6
import Derived.Test.YteddjlbfbpecjaaGreatDoorJoin12
import Derived.Test.YteddjlbfbpecjaaGreatDoorJoin15
namespace Go.Proofs.YteddjlbfbpecjaaGreatDoor
open Go.RowKit Go.WideShapes Go.Shelf
set_option linter.unusedVariables false
theorem box_cells {w w1:World} {A:Array Value} (hb:Below (w.alloc (.cells A 60)).heap.size (w.alloc (.cells A 60)) w1):Below w.heap.size w w1∧(∀ i v,A[i]?=some v→w1.cell? ⟨w.heap.size,i,none⟩=some v) :=
 ⟨below_alloc hb,fun i v hi=>(hb.cell (p:=⟨w.heap.size,i,none⟩) (by simp)).trans (cell_new _ _ _ _ _ hi)⟩
theorem less_cmp  : ∀ (a b:List UInt8),Op.bytesLess a b=decide (Lib.compareBytes a b<0)
 | [],[]=>rfl
 | [],_::_=>rfl
 | _::_,[]=>rfl
 | a::r,b::t=>by
  rw [Op.bytesLess,Lib.compareBytes,less_cmp r t]
  by_cases h:a<b
  ·simp [h]
  ·by_cases g:b<a
   ·have:(a==b)=false:=by
     rw [beq_eq_false_iff_ne]
     intro e;subst e
     exact absurd g h
    simp [h,g,this]
   ·have:(a==b)=true:=by
     rw [beq_iff_eq]
     have h1:¬ a.toNat<b.toNat:=h
     have h2:¬ b.toNat<a.toNat:=g
     exact UInt8.toNat_inj.1 (by omega)
    simp [h,g,this]
def badB (k:Int) (b:Bool) (n:Int) (s:ByteArray) (kl ll:Nat):Bool :=
 ((((decide (k<0)||decide (7<k))||!rbareB k b n s kl ll)||(((k==6)||(k==7))&&decide (n<0)))||!Lib.validD s.data.toList)||((k==5)&&((kl:Int) != (ll:Int)))
mutual
def mayT  : Tree→Bool
 | .mk k b n s ks ts=>!badB k b n s ks.length ts.length&&(risingB ks&&mayL ts)
def mayL  : List Tree→Bool
 | []=>true
 | t::ts=>mayT t&&mayL ts
end
theorem mayL_all  : ∀ (ts:List Tree),mayL ts=ts.all mayT
 | []=>rfl
 | t::ts=>by rw [mayL,mayL_all ts];rfl
theorem mayL_false {ts:List Tree} {t:Tree} {i:Nat} (h:ts[i]?=some t) (hf:mayT t=false):mayL ts=false:=by
 rw [mayL_all,List.all_eq_false]
 exact ⟨t,List.mem_of_getElem? h,by simp [hf]⟩
theorem mayL_true {ts:List Tree} (h:∀ (i:Nat) (t:Tree),ts[i]?=some t→mayT t=true):mayL ts=true:=by
 rw [mayL_all,List.all_eq_true]
 intro t ht
 obtain ⟨i,hi⟩:=List.mem_iff_getElem?.1 ht
 exact h i t hi
theorem rises_key {ks:List ByteArray} {j:Nat} {y z:ByteArray} (hy:ks.getD j ⟨#[]⟩=y) (hz:ks.getD (j - 1) ⟨#[]⟩=z) {x:Bool}
  (hx:x=(!Lib.validD y.data.toList||(decide (0<(j:Int))&&!Op.bytesLess z.toList y.toList))):risesAt ks j=!x:=by
 unfold risesAt
 rw [hx,hy,hz,ByteArray.toList_eq,ByteArray.toList_eq,less_cmp]
 have e1:decide (0<(j:Int))=decide (0<j):=by simp
 have e2:(!decide (Lib.compareBytes z.data.toList y.data.toList<0))=decide (0≤Lib.compareBytes z.data.toList y.data.toList):=by
  by_cases h:Lib.compareBytes z.data.toList y.data.toList<0
  ·simp [h,show ¬ (0≤Lib.compareBytes z.data.toList y.data.toList) by omega]
  ·simp [h,show 0≤Lib.compareBytes z.data.toList y.data.toList by omega]
 rw [e1,e2]
 simp [Bool.not_or,Bool.not_and]
def Rises (ks:List ByteArray) (j:Nat):Prop:=∀ i,i<j→risesAt ks i=true
theorem Rises.snoc {ks:List ByteArray} {j:Nat} (h:Rises ks j) (hj:risesAt ks j=true):Rises ks (j+1):=fun i hi=>by
 rcases Nat.lt_or_eq_of_le (Nat.le_of_lt_succ hi) with h' | rfl
 ·exact h i h'
 ·exact hj
def Mays (ts:List Tree) (p:Nat):Prop:=∀ (i:Nat) (t:Tree),i<p→ts[i]?=some t→mayT t=true
theorem Mays.snoc {ts:List Tree} {p:Nat} {t:Tree} (h:Mays ts p) (hp:ts[p]?=some t) (ht:mayT t=true):Mays ts (p+1):=fun i u hi hu=>by
 rcases Nat.lt_or_eq_of_le (Nat.le_of_lt_succ hi) with h' | rfl
 ·exact h i u h' hu
 ·rw [hp] at hu;cases hu;exact ht
set_option maxRecDepth 100000 in
set_option maxHeartbeats 4000000 in
theorem may_any  : ∀ (T:Tree) (B:Nat) (v:Value) (w:World),B≤w.heap.size→Lies B w v T→Sane T →
  Calls Tryz.prog 110 #[v] w fun e w'=>e=.returned (.bool (mayT T))∧Below w.heap.size w w':=by
 refine Tree.ind ?_
 intro k x n s ks ts ih B v w hB hv hSa
 simp only [Lies] at hv
 simp only [Sane] at hSa
 obtain ⟨s1,s2,s3,s4,s5⟩:=hSa
 obtain ⟨ka,kc,la,lc,rfl,⟨hs1,hs2,hs3,hs4,hs5⟩,hk,ht⟩:=hv
 unfold maxLen at hs1 hs3 hs5
 obtain ⟨W1,hW1⟩:∃ W1,w.alloc (.cells #[.int .i64 k,.bool x,.int .i64 n,.string s,.slice ka ks.length kc,.slice la ts.length lc] 60)=W1:=⟨_,rfl⟩
 have HX:Hid (∀ W,Below W1.heap.size W1 W→Below w.heap.size w W∧(W.cell? ⟨w.heap.size,0,none⟩=some (.int .i64 k)∧W.cell? ⟨w.heap.size,1,none⟩=some (.bool x)∧W.cell? ⟨w.heap.size,2,none⟩=some (.int .i64 n)∧W.cell? ⟨w.heap.size,3,none⟩=some (.string s)∧W.cell? ⟨w.heap.size,4,none⟩=some (.slice ka ks.length kc)∧W.cell? ⟨w.heap.size,5,none⟩=some (.slice la ts.length lc))):=fun W hb=>by
  rw [← hW1] at hb
  obtain ⟨h1,h2⟩:=box_cells hb
  exact ⟨h1,h2 0 _ rfl,h2 1 _ rfl,h2 2 _ rfl,h2 3 _ rfl,h2 4 _ rfl,h2 5 _ rfl⟩
 have HM:Hid (mayT (.mk k x n s ks ts)=(!badB k x n s ks.length ts.length&&(risingB ks&&mayL ts))):=by show _=_;rw [mayT]
 have HW1:=hidE hW1
 have HIH:=hidE ih
 have HKK:=hidE hk
 have HTT:=hidE ht
 have HS4:=hidE s4
 have HS5:=hidE s5
 generalize mayT (.mk k x n s ks ts)=res at *
 clear ih hk ht s4 s5 hW1
 go_enter Tryz.func110,Tryz.ntmps110
 go_upto_region 1 with fail
 rw [HW1.out]
 show (Code.region 1 RM1 false).wp _ _ _ _
 refine regionM1 w.heap.size k x n s ka ks.length kc la ts.length lc ((decide (k<0))) ((decide (7<k))) ((((decide (k<0))||(decide (7<k))))) ((rbareB k x n s ks.length ts.length)) ((!(rbareB k x n s ks.length ts.length))) ((((((decide (k<0))||(decide (7<k))))||(!(rbareB k x n s ks.length ts.length))))) (((k==6))) (((k==7))) (((((k==6))||((k==7))))) ((decide (n<0))) (((((((k==6))||((k==7))))&&(decide (n<0))))) ((((((((decide (k<0))||(decide (7<k))))||(!(rbareB k x n s ks.length ts.length))))||((((((k==6))||((k==7))))&&(decide (n<0))))))) ((Lib.validD s.data.toList)) ((!(Lib.validD s.data.toList))) ((((((((((decide (k<0))||(decide (7<k))))||(!(rbareB k x n s ks.length ts.length))))||((((((k==6))||((k==7))))&&(decide (n<0))))))||(!(Lib.validD s.data.toList))))) (((k==5))) ((((ks.length:Int) != (ts.length:Int)))) (((((k==5))&&(((ks.length:Int) != (ts.length:Int)))))) ((((((((((((decide (k<0))||(decide (7<k))))||(!(rbareB k x n s ks.length ts.length))))||((((((k==6))||((k==7))))&&(decide (n<0))))))||(!(Lib.validD s.data.toList))))||((((k==5))&&(((ks.length:Int) != (ts.length:Int)))))))) _ _ _ rfl rfl rfl rfl rfl rfl rfl rfl rfl rfl rfl rfl rfl rfl rfl rfl rfl rfl rfl rfl ⟨rfl⟩ (fun W hb=>by obtain ⟨_,h0,h1,h2,h3,h4,h5⟩:=HX.out W hb;exact ⟨h0,h1,h2,h3,h4,h5,s1⟩) ?_
 intro c W hS hB1 he
 have hbad:badB k x n s ks.length ts.length=((((((((((((decide (k<0))||(decide (7<k))))||(!(rbareB k x n s ks.length ts.length))))||((((((k==6))||((k==7))))&&(decide (n<0))))))||(!(Lib.validD s.data.toList))))||((((k==5))&&(((ks.length:Int) != (ts.length:Int)))))))):=rfl
 rw [← hbad] at he
 clear hbad
 generalize badB k x n s ks.length ts.length=bad at *
 have hl:c=⟨#[.agg #[.int .i64 k,.bool x,.int .i64 n,.string s,.slice ka ks.length kc,.slice la ts.length lc],.pointer (some ⟨w.heap.size,0,none⟩),.bool false,undef,undef,c.eval (.tmp 5),c.eval (.tmp 6),c.eval (.tmp 7),c.eval (.tmp 8),c.eval (.tmp 9),c.eval (.tmp 10),c.eval (.tmp 11),c.eval (.tmp 12),c.eval (.tmp 13),c.eval (.tmp 14),c.eval (.tmp 15),c.eval (.tmp 16),c.eval (.tmp 17),c.eval (.tmp 18),c.eval (.tmp 19),c.eval (.tmp 20),c.eval (.tmp 21),c.eval (.tmp 22),c.eval (.tmp 23),c.eval (.tmp 24),c.eval (.tmp 25),c.eval (.tmp 26),c.eval (.tmp 27),c.eval (.tmp 28),c.eval (.tmp 29),c.eval (.tmp 30),c.eval (.tmp 31),c.eval (.tmp 32),c.eval (.tmp 33),c.eval (.tmp 34),c.eval (.tmp 35),c.eval (.tmp 36),c.eval (.tmp 37),c.eval (.tmp 38),c.eval (.tmp 39),c.eval (.tmp 40),c.eval (.tmp 41),c.eval (.tmp 42),c.eval (.tmp 43),c.eval (.tmp 44),c.eval (.tmp 45),c.eval (.tmp 46),c.eval (.tmp 47),c.eval (.tmp 48),c.eval (.tmp 49),c.eval (.tmp 50),c.eval (.tmp 51),c.eval (.tmp 52),undef,undef,undef,undef,undef,undef,undef,undef,undef,undef,undef,undef,undef,undef,undef,undef,undef,undef,undef,undef,undef,undef,undef,undef,undef,undef,undef,undef,undef,undef,undef,undef,undef,undef,undef,undef,undef,undef,undef,undef,undef,undef,undef,undef,undef,undef],[]⟩:=(same_lay hS).trans (by kernel_rfl)
 rw [he] at hl
 generalize c.eval (.tmp 5)=y5,c.eval (.tmp 6)=y6,c.eval (.tmp 7)=y7,c.eval (.tmp 8)=y8,c.eval (.tmp 9)=y9,c.eval (.tmp 10)=y10,c.eval (.tmp 11)=y11,c.eval (.tmp 12)=y12,c.eval (.tmp 13)=y13,c.eval (.tmp 14)=y14,c.eval (.tmp 15)=y15,c.eval (.tmp 16)=y16,c.eval (.tmp 17)=y17,c.eval (.tmp 18)=y18,c.eval (.tmp 19)=y19,c.eval (.tmp 20)=y20,c.eval (.tmp 21)=y21,c.eval (.tmp 22)=y22,c.eval (.tmp 23)=y23,c.eval (.tmp 24)=y24,c.eval (.tmp 25)=y25,c.eval (.tmp 26)=y26,c.eval (.tmp 27)=y27,c.eval (.tmp 28)=y28,c.eval (.tmp 29)=y29,c.eval (.tmp 30)=y30,c.eval (.tmp 31)=y31,c.eval (.tmp 32)=y32,c.eval (.tmp 33)=y33,c.eval (.tmp 34)=y34,c.eval (.tmp 35)=y35,c.eval (.tmp 36)=y36,c.eval (.tmp 37)=y37,c.eval (.tmp 38)=y38,c.eval (.tmp 39)=y39,c.eval (.tmp 40)=y40,c.eval (.tmp 41)=y41,c.eval (.tmp 42)=y42,c.eval (.tmp 43)=y43,c.eval (.tmp 44)=y44,c.eval (.tmp 45)=y45,c.eval (.tmp 46)=y46,c.eval (.tmp 47)=y47,c.eval (.tmp 48)=y48,c.eval (.tmp 49)=y49,c.eval (.tmp 50)=y50,c.eval (.tmp 51)=y51 at hl
 clear hS he
 subst hl
 have HB1:=hidE hB1
 have HBW:=hidE (HX.out W hB1).1
 clear hB1
 cases bad
 case true =>
  go_wp2_with fail
  go_ret
  exact ⟨by rw [HM.out];rfl,HBW.out⟩
 go_wp2_with fail
 go_loopw [3] (fun i wr=>∃ j:Nat,j≤ks.length∧i=.int .i64 j∧Below W1.heap.size W1 wr∧Rises ks j) (fun i _=>ks.length - (intOf i).toNat)
 case atStart=>exact ⟨0,Nat.zero_le _,rfl,HB1.out,fun i hi=>absurd hi (Nat.not_lt_zero _)⟩
 case round =>
  obtain ⟨j,hj,rfl,hbr,hri⟩:=hrel
  obtain ⟨hbw,q0,q1,q2,q3,q4,q5⟩:=HX.out wr hbr
  have HBR:=hidE hbr
  have HRI:=hidE hri
  have HBV:=hidE hbw
  clear hbr hri hbw q0 q1 q2 q3 q5
  by_cases hja:j<ks.length
  ·obtain ⟨bk,off,rfl,hbk,hkey⟩:=(HKK.out.below (HBV.out.mono hB)).resolve_left (by intro e;subst e;simp at hja)
   obtain ⟨y,hy⟩:∃ y,ks.getD j ⟨#[]⟩=y:=⟨_,rfl⟩
   obtain ⟨z,hz⟩:∃ z,ks.getD (j - 1) ⟨#[]⟩=z:=⟨_,rfl⟩
   have HK1:=hidE (hy▸(hkey j hja).1)
   have HK2:Hid (0<j→wr.cell? ⟨bk,off+(j - 1),none⟩=some (.string z)):=fun h=>hz▸(hkey (j - 1) (by omega)).1
   have HSZ:Hid (y.size≤140737488355328):=by
    show _≤_
    rw [← hy,List.getD_eq_getElem?_getD,List.getElem?_eq_getElem hja]
    exact HS4.out _ (List.getElem_mem hja)
   have HRS:Hid (∀ x:Bool,x=(!Lib.validD y.data.toList||(decide (0<(j:Int))&&!Op.bytesLess z.toList y.toList))→risesAt ks j=!x):=fun x h=>rises_key hy hz h
   clear hkey hy hz
   go_upto_region 6 with fail
   show (Code.region 6 RM6 true).wp _ _ _ _
   refine regionM6 w.heap.size bk off ks.length kc j y z ((Lib.validD y.data.toList)) ((!(Lib.validD y.data.toList))) ((decide (0<(j:Int)))) ((!Op.bytesLess z.toList y.toList)) ((((decide (0<(j:Int)))&&(!Op.bytesLess z.toList y.toList)))) ((((!(Lib.validD y.data.toList))||(((decide (0<(j:Int)))&&(!Op.bytesLess z.toList y.toList)))))) _ _ _ rfl rfl rfl (fun h=>by simpa using h) (fun h=>by simpa using h) rfl rfl rfl rfl ⟨rfl,rfl⟩ (fun W hb=>⟨cell_below hb (Nat.le_refl _) q4,cell_below hb (Nat.le_refl _) HK1.out,fun h=>cell_below hb (Nat.le_refl _) (HK2.out h),HSZ.out,hja,by omega⟩) ?_
   intro c Wr hS hB6 he
   have HB6:=hidE (HBR.out.trans (hB6.mono HBR.out.size))
   have HBX:=hidE (HX.out _ HB6.out).1
   clear hB6 HK1 HK2 q4
   have HR6:=hidE (HRS.out _ rfl)
   rw [show ((((!(Lib.validD y.data.toList))||(((decide (0<(j:Int)))&&(!Op.bytesLess z.toList y.toList))))))=!risesAt ks j by rw [HR6.out];simp] at he
   clear HRS HR6
   obtain ⟨rz,hrz⟩:∃ rz,risesAt ks j=rz:=⟨_,rfl⟩
   rw [hrz] at he
   have HRZ:=hidE hrz
   clear hrz
   cases rz
   case false =>
    simp only [Bool.not_false] at he
    have hl:c=⟨#[.agg #[.int .i64 k,.bool x,.int .i64 n,.string s,.slice (some ⟨bk,off,none⟩) ks.length kc,.slice la ts.length lc],.pointer (some ⟨w.heap.size,0,none⟩),u2,.int .i64 (j:Int),undef,y5,y6,y7,y8,y9,y10,y11,y12,y13,y14,y15,y16,y17,y18,y19,y20,y21,y22,y23,y24,y25,y26,y27,y28,y29,y30,y31,y32,y33,y34,y35,y36,y37,y38,y39,y40,y41,y42,y43,y44,y45,y46,y47,y48,y49,y50,y51,.bool false,.int .i64 (j:Int),.pointer (some ⟨w.heap.size,4,none⟩),.slice (some ⟨bk,off,none⟩) ks.length kc,.int .i64 (ks.length:Int),.bool true,u58,u59,c.eval (.tmp 60),c.eval (.tmp 61),c.eval (.tmp 62),c.eval (.tmp 63),c.eval (.tmp 64),c.eval (.tmp 65),c.eval (.tmp 66),c.eval (.tmp 67),c.eval (.tmp 68),c.eval (.tmp 69),c.eval (.tmp 70),c.eval (.tmp 71),c.eval (.tmp 72),c.eval (.tmp 73),c.eval (.tmp 74),c.eval (.tmp 75),c.eval (.tmp 76),c.eval (.tmp 77),c.eval (.tmp 78),c.eval (.tmp 79),c.eval (.tmp 80),c.eval (.tmp 81),c.eval (.tmp 82),c.eval (.tmp 83),c.eval (.tmp 84),undef,undef,undef,undef,undef,undef,undef,undef,undef,undef,undef,undef,undef,undef],[]⟩:=(same_lay hS).trans (by kernel_rfl)
    rw [he] at hl
    generalize c.eval (.tmp 60)=y60,c.eval (.tmp 61)=y61,c.eval (.tmp 62)=y62,c.eval (.tmp 63)=y63,c.eval (.tmp 64)=y64,c.eval (.tmp 65)=y65,c.eval (.tmp 66)=y66,c.eval (.tmp 67)=y67,c.eval (.tmp 68)=y68,c.eval (.tmp 69)=y69,c.eval (.tmp 70)=y70,c.eval (.tmp 71)=y71,c.eval (.tmp 72)=y72,c.eval (.tmp 73)=y73,c.eval (.tmp 74)=y74,c.eval (.tmp 75)=y75,c.eval (.tmp 76)=y76,c.eval (.tmp 77)=y77,c.eval (.tmp 78)=y78,c.eval (.tmp 79)=y79,c.eval (.tmp 80)=y80,c.eval (.tmp 81)=y81,c.eval (.tmp 82)=y82,c.eval (.tmp 83)=y83 at hl
    clear hS he
    subst hl
    go_wp2_with fail
    go_ret
    exact ⟨by rw [HM.out,rising_false hja HRZ.out];rfl,HBX.out⟩
   case true =>
    simp only [Bool.not_true] at he
    have hl:c=⟨#[.agg #[.int .i64 k,.bool x,.int .i64 n,.string s,.slice (some ⟨bk,off,none⟩) ks.length kc,.slice la ts.length lc],.pointer (some ⟨w.heap.size,0,none⟩),u2,.int .i64 (j:Int),undef,y5,y6,y7,y8,y9,y10,y11,y12,y13,y14,y15,y16,y17,y18,y19,y20,y21,y22,y23,y24,y25,y26,y27,y28,y29,y30,y31,y32,y33,y34,y35,y36,y37,y38,y39,y40,y41,y42,y43,y44,y45,y46,y47,y48,y49,y50,y51,.bool false,.int .i64 (j:Int),.pointer (some ⟨w.heap.size,4,none⟩),.slice (some ⟨bk,off,none⟩) ks.length kc,.int .i64 (ks.length:Int),.bool true,u58,u59,c.eval (.tmp 60),c.eval (.tmp 61),c.eval (.tmp 62),c.eval (.tmp 63),c.eval (.tmp 64),c.eval (.tmp 65),c.eval (.tmp 66),c.eval (.tmp 67),c.eval (.tmp 68),c.eval (.tmp 69),c.eval (.tmp 70),c.eval (.tmp 71),c.eval (.tmp 72),c.eval (.tmp 73),c.eval (.tmp 74),c.eval (.tmp 75),c.eval (.tmp 76),c.eval (.tmp 77),c.eval (.tmp 78),c.eval (.tmp 79),c.eval (.tmp 80),c.eval (.tmp 81),c.eval (.tmp 82),c.eval (.tmp 83),c.eval (.tmp 84),undef,undef,undef,undef,undef,undef,undef,undef,undef,undef,undef,undef,undef,undef],[]⟩:=(same_lay hS).trans (by kernel_rfl)
    rw [he] at hl
    generalize c.eval (.tmp 60)=y60,c.eval (.tmp 61)=y61,c.eval (.tmp 62)=y62,c.eval (.tmp 63)=y63,c.eval (.tmp 64)=y64,c.eval (.tmp 65)=y65,c.eval (.tmp 66)=y66,c.eval (.tmp 67)=y67,c.eval (.tmp 68)=y68,c.eval (.tmp 69)=y69,c.eval (.tmp 70)=y70,c.eval (.tmp 71)=y71,c.eval (.tmp 72)=y72,c.eval (.tmp 73)=y73,c.eval (.tmp 74)=y74,c.eval (.tmp 75)=y75,c.eval (.tmp 76)=y76,c.eval (.tmp 77)=y77,c.eval (.tmp 78)=y78,c.eval (.tmp 79)=y79,c.eval (.tmp 80)=y80,c.eval (.tmp 81)=y81,c.eval (.tmp 82)=y82,c.eval (.tmp 83)=y83 at hl
    clear hS he
    subst hl
    go_wp2_with fail
    go_roundw
    case rel=>exact ⟨j+1,by omega,by go_num,HB6.out,HRI.out.snoc HRZ.out⟩
    case measure=>simp [intOf];omega
  ·have HRT:Hid (risingB ks=true):=rising_true fun i hi=>HRI.out i (by omega)
   go_wp2_with fail
   clear q4
   go_loopw [4] (fun i wr=>∃ p:Nat,p≤ts.length∧i=.int .i64 p∧Below W1.heap.size W1 wr∧Mays ts p) (fun i _=>ts.length - (intOf i).toNat)
   case atStart=>exact ⟨0,Nat.zero_le _,rfl,HBR.out,fun i t hi _=>absurd hi (Nat.not_lt_zero _)⟩
   case round =>
    obtain ⟨p,hp,rfl,hbr2,hma⟩:=hrel
    obtain ⟨hbw2,q0,q1,q2,q3,q4,q5⟩:=HX.out _ hbr2
    have HBR2:=hidE hbr2
    have HBW2:=hidE hbw2
    have HMA:=hidE hma
    clear hbr2 hma hbw2 q0 q1 q2 q3 q4
    by_cases hlt:p<ts.length
    ·obtain ⟨bl,off,rfl,hbl,hkk⟩:=HTT.out.resolve_left (by intro e;subst e;simp at hlt)
     obtain ⟨⟨p0,p1,p2,p3,p4,p5⟩,hx⟩:∃ t,ts[p]?=some t:=⟨_,List.getElem?_eq_getElem hlt⟩
     obtain ⟨ja,jc,jl,jd,⟨c0,c1,c2,c3,c4,c5⟩,hlx⟩:=(hkk.below (HBW2.out.mono hB) hbl).cells hx
     have HC:=hidE (HIH.out _ (List.mem_of_getElem? hx) B _ wr (Nat.le_trans hB HBW2.out.size) hlx (HS5.out.mem (List.mem_of_getElem? hx)))
     have HF:=hidE (@mayL_false ts _ p hx)
     have HSN:=hidE (fun h=>@Mays.snoc ts p _ HMA.out hx h)
     clear hkk hlx hx
     generalize mayT (.mk p0 p1 p2 p3 p4 p5)=mt at *
     go_wp2_with fail
     refine HC.out.mono ?_;rintro e w' ⟨rfl,hk2⟩
     have HB2:=hidE (HBR2.out.trans (hk2.mono HBR2.out.size))
     clear hk2 c0 c1 c2 c3 c4 c5 q5
     cases mt
     ·go_wp2_with fail
      go_ret
      exact ⟨by rw [HM.out,HRT.out,HF.out (by simp)];rfl,(HX.out _ HB2.out).1⟩
     ·go_wp2_with fail
      go_roundw
      case rel=>exact ⟨p+1,by omega,by go_num,HB2.out,HSN.out (by simp)⟩
      case measure=>simp [intOf];omega
    ·have HMT:Hid (mayL ts=true):=mayL_true fun i t hi=>HMA.out i t (by have:=(List.getElem?_eq_some_iff.1 hi).1;omega) hi
     go_wp2_with fail
     go_ret
     exact ⟨by rw [HM.out,HRT.out,HMT.out];rfl,HBW2.out⟩
end Go.Proofs.YteddjlbfbpecjaaGreatDoor

namespace Go.Proofs.YteddjlbfbpecjaaGreatDoor
open Go.RowKit Go.WideShapes Go.Shelf
set_option linter.unusedVariables false
mutual
def cntT  : Tree→Int
 | .mk k b n s ks ts=>1+cntL ts
def cntL  : List Tree→Int
 | []=>0
 | t::ts=>cntT t+cntL ts
end
mutual
def bytT  : Tree→Int
 | .mk k b n s ks ts=>s.size+keyBytes ks+bytL ts
def bytL  : List Tree→Int
 | []=>0
 | t::ts=>bytT t+bytL ts
end
mutual
def lngT  : Tree→Int
 | .mk k b n s ks ts=>max (ts.length:Int) (lngL ts)
def lngL  : List Tree→Int
 | []=>0
 | t::ts=>max (lngT t) (lngL ts)
end
mutual
def hgtT  : Tree→Int
 | .mk k b n s ks ts=>hgtL ts+1
def hgtL  : List Tree→Int
 | []=>0
 | t::ts=>max (hgtT t) (hgtL ts)
end
mutual
theorem size_le  : ∀ (T:Tree),(1≤cntT T∧cntT T≤T.total)∧(0≤bytT T∧bytT T≤T.total)∧(0≤lngT T∧lngT T≤T.total)∧(1≤hgtT T∧hgtT T≤T.total)
 | .mk k b n s ks ts=>by
  have h:=sizeL_le ts
  have hk:=keyBytes_nonneg ks
  simp only [cntT,bytT,lngT,hgtT,Tree.total]
  omega
theorem sizeL_le  : ∀ (l:List Tree),(0≤cntL l∧cntL l≤Tree.totalL l)∧(0≤bytL l∧bytL l≤Tree.totalL l)∧(0≤lngL l∧lngL l≤Tree.totalL l)∧(0≤hgtL l∧hgtL l≤Tree.totalL l)∧(l.length:Int)≤Tree.totalL l
 | []=>by simp [cntL,bytL,lngL,hgtL,Tree.totalL]
 | t::ts=>by
  have h:=size_le t
  have g:=sizeL_le ts
  simp only [cntL,bytL,lngL,hgtL,Tree.totalL,List.length_cons]
  omega
end
theorem cntL_append  : ∀ (a b:List Tree),cntL (a++b)=cntL a+cntL b
 | [],b=>by simp [cntL]
 | t::a,b=>by simp only [List.cons_append,cntL,cntL_append a b];omega
theorem bytL_append  : ∀ (a b:List Tree),bytL (a++b)=bytL a+bytL b
 | [],b=>by simp [bytL]
 | t::a,b=>by simp only [List.cons_append,bytL,bytL_append a b];omega
theorem lngL_append  : ∀ (a b:List Tree),lngL (a++b)=max (lngL a) (lngL b)
 | [],b=>by have:=(sizeL_le b).2.2.1.1;simp only [List.nil_append,lngL];omega
 | t::a,b=>by simp only [List.cons_append,lngL,lngL_append a b];omega
theorem hgtL_append  : ∀ (a b:List Tree),hgtL (a++b)=max (hgtL a) (hgtL b)
 | [],b=>by have:=(sizeL_le b).2.2.2.1.1;simp only [List.nil_append,hgtL];omega
 | t::a,b=>by simp only [List.cons_append,hgtL,hgtL_append a b];omega
theorem totalL_append  : ∀ (a b:List Tree),Tree.totalL (a++b)=Tree.totalL a+Tree.totalL b
 | [],b=>by simp [Tree.totalL]
 | t::a,b=>by simp only [List.cons_append,Tree.totalL,totalL_append a b];omega
theorem totalL_nonneg (l:List Tree):0≤Tree.totalL l:=by have:=(sizeL_le l).1;omega
theorem totalL_take (ts:List Tree) (p:Nat):Tree.totalL (ts.take p)≤Tree.totalL ts:=by
 have h:=totalL_append (ts.take p) (ts.drop p)
 rw [List.take_append_drop] at h
 have:=totalL_nonneg (ts.drop p)
 omega
def Four (s0:Int) (ts:List Tree) (p:Nat) (a b c d:Value):Prop :=
 a=.int .i64 (1+cntL (ts.take p))∧b=.int .i64 (hgtL (ts.take p))∧c=.int .i64 (s0+bytL (ts.take p))∧d=.int .i64 (max (ts.length:Int) (lngL (ts.take p)))
theorem results_tmp4s {fn:Func} {t u v x:Tmp} (h:fn.results=#[.tmp t,.tmp u,.tmp v,.tmp x]) (tmps:Array Value) (P:Program) (w:World) :
  (results fn tmps).run P w=.ok (.tuple #[tmps.getD t undef,tmps.getD u undef,tmps.getD v undef,tmps.getD x undef]) w:=by
 simp [results,h]
set_option maxRecDepth 100000 in
set_option maxHeartbeats 4000000 in
theorem refsize_any  : ∀ (T:Tree) (B:Nat) (v:Value) (w:World),B≤w.heap.size→Lies B w v T→T.total≤2000000 →
  Calls Tryz.prog 69 #[v] w fun e w'=>e=.returned (.tuple #[.int .i64 (cntT T),.int .i64 (hgtT T),.int .i64 (bytT T),.int .i64 (lngT T)])∧Below w.heap.size w w':=by
 refine Tree.ind ?_
 intro k x n s ks ts ih B v w hB hv htot
 have hsz:=size_le (.mk k x n s ks ts)
 have hszL:=sizeL_le ts
 have hkb:=keyBytes_nonneg ks
 simp only [Lies] at hv
 obtain ⟨ka,kc,la,lc,rfl,⟨hs1,hs2,hs3,hs4,hs5⟩,hk,ht⟩:=hv
 unfold maxLen at hs1 hs3 hs5
 simp only [Tree.total] at htot
 obtain ⟨W1,hW1⟩:∃ W1,w.alloc (.cells #[.int .i64 k,.bool x,.int .i64 n,.string s,.slice ka ks.length kc,.slice la ts.length lc] 60)=W1:=⟨_,rfl⟩
 have HX:Hid (∀ W,Below W1.heap.size W1 W→Below w.heap.size w W∧(W.cell? ⟨w.heap.size,3,none⟩=some (.string s)∧W.cell? ⟨w.heap.size,4,none⟩=some (.slice ka ks.length kc)∧W.cell? ⟨w.heap.size,5,none⟩=some (.slice la ts.length lc))):=fun W hb=>by
  rw [← hW1] at hb
  obtain ⟨h1,h2⟩:=box_cells hb
  exact ⟨h1,h2 3 _ rfl,h2 4 _ rfl,h2 5 _ rfl⟩
 have HRES:Hid (cntT (.mk k x n s ks ts)=1+cntL ts∧hgtT (.mk k x n s ks ts)=hgtL ts+1∧bytT (.mk k x n s ks ts)=s.size+keyBytes ks+bytL ts∧lngT (.mk k x n s ks ts)=max (ts.length:Int) (lngL ts)):=by
  refine ⟨?_,?_,?_,?_⟩
  ·rw [cntT]
  ·rw [hgtT]
  ·rw [bytT]
  ·rw [lngT]
 have HW1:=hidE hW1
 have HIH:=hidE ih
 have HKK:=hidE hk
 have HTT:=hidE ht
 have HTOT:=hidE htot
 have HSL:=hidE hszL
 have HKB:=hidE hkb
 have hsl1:(s.size:Int)≤2000000:=by omega
 have hsl2:(ts.length:Int)≤2000000:=by omega
 have hsl3:(ks.length:Int)≤2000000:=by have:=totalL_nonneg ts;omega
 generalize cntT (.mk k x n s ks ts)=r1 at *
 generalize hgtT (.mk k x n s ks ts)=r2 at *
 generalize bytT (.mk k x n s ks ts)=r3 at *
 generalize lngT (.mk k x n s ks ts)=r4 at *
 clear ih hk ht hW1 hsz hszL hkb htot
 obtain ⟨_,p3,p4,p5⟩:=HX.out W1 (Below.refl _ _)
 go_enter Tryz.func69,Tryz.ntmps69
 go_upto_region 1 with fail
 rw [HW1.out]
 go_quiet (fail)
 go_wp2_with fail
 clear p3 p4 p5 HW1
 go_loopw [10,8] (fun i u wr=>∃ j:Nat,j≤ks.length∧i=.int .i64 j∧u=.int .i64 ((s.size:Int)+keyBytes (ks.take j))∧Below W1.heap.size W1 wr) (fun i _ _=>ks.length - (intOf i).toNat)
 case atStart=>exact ⟨0,Nat.zero_le _,rfl,by simp [keyBytes],below_drewN (Below.refl _ _) _⟩
 case round =>
  obtain ⟨j,hj,rfl,rfl,hbr⟩:=hrel
  obtain ⟨hbw,q3,q4,q5⟩:=HX.out wr hbr
  have HBR:=hidE hbr
  have HBV:=hidE hbw
  clear hbr hbw q3 q5
  have hle:=keyBytes_le ks j
  have hge:=keyBytes_nonneg (ks.take j)
  by_cases hja:j<ks.length
  ·obtain ⟨bk,off,rfl,hbk,hkey⟩:=(HKK.out.below (HBV.out.mono hB)).resolve_left (by intro e;subst e;simp at hja)
   have hc:=(hkey j hja).1
   have HSN:=hidE (keyBytes_take ks j hja)
   have hle2:=keyBytes_le ks (j+1)
   clear hkey
   generalize ks.getD j ⟨#[]⟩=y at *
   have hb1:(s.size:Int)+keyBytes (ks.take j)+y.size≤2000000:=by have:=HTOT.out;have:=HSN.out;have:=totalL_nonneg ts;omega
   have hb0:0≤(s.size:Int)+keyBytes (ks.take j):=by omega
   clear hle hge hle2
   generalize keyBytes (ks.take j)=kb at *
   go_wp2_with fail
   go_roundw
   case rel=>exact ⟨j+1,by omega,by go_num,by rw [HSN.out,← Int.add_assoc],HBR.out⟩
   case measure=>simp [intOf];omega
  ·have HKT:Hid (keyBytes (ks.take j)=keyBytes ks):=by show _=_;rw [List.take_of_length_le (by omega)]
   clear hle hge
   rw [HKT.out]
   clear HKT HKK
   go_wp2_with fail
   clear q4
   go_loopw [11,6,7,8,9] (fun i a b c d wr=>∃ p:Nat,p≤ts.length∧i=.int .i64 p∧Four ((s.size:Int)+keyBytes ks) ts p a b c d∧Below W1.heap.size W1 wr) (fun i _ _ _ _ _=>ts.length - (intOf i).toNat)
   case atStart=>exact ⟨0,Nat.zero_le _,rfl,⟨by simp [cntL],by simp [hgtL],by simp [bytL],by simp [lngL]⟩,HBR.out⟩
   case round =>
    obtain ⟨p,hp,rfl,⟨rfl,rfl,rfl,rfl⟩,hbr2⟩:=hrel
    obtain ⟨hbw2,q3,q4,q5⟩:=HX.out _ hbr2
    have HBR2:=hidE hbr2
    have HBW2:=hidE hbw2
    clear hbr2 hbw2 q3 q4
    have hS1:=sizeL_le (ts.take p)
    have hS2:=totalL_take ts p
    by_cases hlt:p<ts.length
    ·obtain ⟨bl,off,rfl,hbl,hkk⟩:=HTT.out.resolve_left (by intro e;subst e;simp at hlt)
     obtain ⟨⟨p0,p1,p2,p3,p4,p5⟩,hx⟩:∃ t,ts[p]?=some t:=⟨_,List.getElem?_eq_getElem hlt⟩
     obtain ⟨ja,jc,jl,jd,⟨c0,c1,c2,c3,c4,c5⟩,hlx⟩:=(hkk.below (HBW2.out.mono hB) hbl).cells hx
     have hm:=totalL_mem (List.mem_of_getElem? hx)
     have HC:=hidE (HIH.out _ (List.mem_of_getElem? hx) B _ wr (Nat.le_trans hB HBW2.out.size) hlx (by have:=HTOT.out;have:=HKB.out;omega))
     have hS3:=size_le (.mk p0 p1 p2 p3 p4 p5)
     have hS4:=sizeL_le (ts.take (p+1))
     have hS5:=totalL_take ts (p+1)
     have HQ:Hid (cntL (ts.take (p+1))=cntL (ts.take p)+cntT (.mk p0 p1 p2 p3 p4 p5)∧hgtL (ts.take (p+1))=max (hgtL (ts.take p)) (hgtT (.mk p0 p1 p2 p3 p4 p5))∧bytL (ts.take (p+1))=bytL (ts.take p)+bytT (.mk p0 p1 p2 p3 p4 p5)∧lngL (ts.take (p+1))=max (lngL (ts.take p)) (lngT (.mk p0 p1 p2 p3 p4 p5))):=by
      rw [take_snoc hx]
      have g:=size_le (.mk p0 p1 p2 p3 p4 p5)
      refine ⟨?_,?_,?_,?_⟩
      ·rw [cntL_append];simp [cntL]
      ·rw [hgtL_append];simp only [hgtL];omega
      ·rw [bytL_append];simp [bytL]
      ·rw [lngL_append];simp only [lngL];omega
     clear hkk hlx hx
     generalize cntT (.mk p0 p1 p2 p3 p4 p5)=t1 at *
     generalize hgtT (.mk p0 p1 p2 p3 p4 p5)=t2 at *
     generalize bytT (.mk p0 p1 p2 p3 p4 p5)=t3 at *
     generalize lngT (.mk p0 p1 p2 p3 p4 p5)=t4 at *
     generalize (Tree.mk p0 p1 p2 p3 p4 p5).total=t5 at *
     have hA:cntL (ts.take p)+t1≤2000000∧bytL (ts.take p)+t3+(s.size:Int)+keyBytes ks≤2000000:=by have:=HTOT.out;have:=HKB.out;have:=HQ.out;omega
     have hB0:=HKB.out
     have hN:0≤cntL (ts.take p)∧0≤bytL (ts.take p)∧0≤t1∧0≤t3:=by omega
     clear hS1 hS2 hS3 hS4 hS5 hm
     generalize cntL (ts.take p)=m1 at *
     generalize hgtL (ts.take p)=m2 at *
     generalize bytL (ts.take p)=m3 at *
     generalize lngL (ts.take p)=m4 at *
     generalize keyBytes ks=kb at *
     go_wp2_with fail
     refine HC.out.mono ?_;rintro e w' ⟨rfl,hk2⟩
     have HB2:=hidE (HBR2.out.trans (hk2.mono HBR2.out.size))
     clear hk2 c0 c1 c2 c3 c4 c5 q5 HC
     go_wp2_with fail
     go_roundw
     case rel =>
      refine ⟨p+1,by omega,by go_num,⟨?_,?_,?_,?_⟩,HB2.out⟩
      ·rw [HQ.out.1,← Int.add_assoc]
      ·rw [HQ.out.2.1]
      ·rw [HQ.out.2.2.1,← Int.add_assoc]
      ·rw [HQ.out.2.2.2]
     case measure=>simp [intOf];omega
    ·have HT:Hid (ts.take p=ts):=List.take_of_length_le (by omega)
     rw [HT.out] at hS1 ⊢
     have hh:0≤hgtL ts∧hgtL ts≤2000000:=by have:=HTOT.out;have:=HKB.out;omega
     clear hS1 hS2 HT
     obtain ⟨e1,e2,e3,e4⟩:=HRES.out
     have HE:=hidE (And.intro e1 (And.intro e2 (And.intro e3 e4)))
     clear e1 e2 e3 e4 HRES
     go_wp2_with fail
     (try simp only [Exit.inBlock,Exit.then]);refine bodyPost_ret (results_tmp4s rfl _ _ _) rfl ?_
     refine ⟨?_,HBW2.out⟩
     rw [HE.out.1,HE.out.2.1,HE.out.2.2.1,HE.out.2.2.2]
     rfl
end Go.Proofs.YteddjlbfbpecjaaGreatDoor

