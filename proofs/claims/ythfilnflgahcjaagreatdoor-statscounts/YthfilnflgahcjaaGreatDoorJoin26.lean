/- A builder of texts: what is written to it. Keys as layer 1 tells them. Counts as a text. A line of words, written to a builder. The program's Text. -/
import Derived.Test.YthfilnflgahcjaaGreatDoorShelf4
import Derived.Test.YthfilnflgahcjaaGreatDoorJoin2
import Derived.Test.YthfilnflgahcjaaGreatDoorJoin4
import Derived.Test.YthfilnflgahcjaaGreatDoorJoin15
import Derived.Test.YthfilnflgahcjaaGreatDoorJoin7
import Derived.Lib.AppendIntMem
import Derived.Lib.SplitLaws
import Derived.Test.YthfilnflgahcjaaGreatDoorJoin1
import Derived.Lib.ValidLaws
import Derived.Lib.ItoaLen
import Derived.Lib.Join
import Derived.Test.YthfilnflgahcjaaGreatDoorJoin3
namespace Go.Proofs.YthfilnflgahcjaaGreatDoor
open Go.RowKit Go.Shelf
set_option linter.all false
abbrev Jgb (B b:Nat) (l:List UInt8) (w:World):Prop:=Lib.IsBuilder 118 5 B b (Lib.byteCells l) w
structure Zyf (w:World):Prop where
 e:Env w
 ml:∃ m,w.cell? ⟨2,0,none⟩=some (.int .i64 m)
 pow:Lib.TabIs Tryz.prog w "internal/strconv.uint64pow10" .u64 Lib.pow10Tab
theorem Zyf.below {w w':World} (h:Zyf w) (hb:Below w.heap.size w w'):Zyf w':=by
 have a:=h.e.room
 obtain ⟨m,hm⟩:=h.ml
 exact ⟨h.e.below hb a,⟨m,(hb.cell (p:=⟨2,0,none⟩) (by show 2<w.heap.size;omega)).trans hm⟩,Lib.tabBelow_of_tabIs h.pow w' hb⟩
theorem Zc2 {n:Int} (h:W64 n):-9223372036854775808<=n/\n<=9223372036854775807:=by
 unfold W64 Lit.wf at h
 have e1:IntKind.i64.min=-9223372036854775808:=by decide
 have e2:IntKind.i64.max=9223372036854775807:=by decide
 simp [e1,e2] at h
 omega
end Go.Proofs.YthfilnflgahcjaaGreatDoor

namespace Go.Proofs.YthfilnflgahcjaaGreatDoor
open Go.RowKit Go.Shelf Go.Lib
set_option linter.all false
def Zjf (m:Nat):Bool:=m==95||(decide (65<=m)&&decide (m<=90))||(decide (97<=m)&&decide (m<=122))
theorem Jbz (m:Nat) (w:World):Calls Tryz.prog 142 #[.int .u8 (m:Int)] w fun e w'=>e=.returned (.bool (Zjf m))/\w'=w:=by
 go_enter Tryz.func142,Tryz.ntmps142
 by_cases n:m=95
 ·subst n
  go_wp2_with fail
  go_ret
  exact ⟨rfl,rfl⟩
 have a1:¬ (m:Int)=95:=by omega
 by_cases g:65<=m
 ·have X:(65:Int)<=m:=by omega
  by_cases P:m<=90
  ·have R:(m:Int)<=90:=by omega
   go_wp2_with fail
   go_ret
   exact ⟨by simp [Zjf,g,P],rfl⟩
  ·have R:¬ (m:Int)<=90:=by omega
   by_cases U:97<=m
   ·have Q:(97:Int)<=m:=by omega
    go_wp2_with fail
    go_ret
    refine ⟨congrArg (fun b=>Ending.returned (.bool b)) (?_:((m:Int)==95||decide ((m:Int)<=122))=Zjf m),rfl⟩
    rw [Bool.eq_iff_iff]
    simp [Zjf]
    omega
   ·have Q:¬ (97:Int)<=m:=by omega
    go_wp2_with fail
    go_ret
    refine ⟨congrArg (fun b=>Ending.returned (.bool b)) (?_:((m:Int)==95)=Zjf m),rfl⟩
    rw [Bool.eq_iff_iff]
    simp [Zjf]
    omega
 ·have X:¬ (65:Int)<=m:=by omega
  have Q:¬ (97:Int)<=m:=by omega
  go_wp2_with fail
  go_ret
  refine ⟨congrArg (fun b=>Ending.returned (.bool b)) (?_:((m:Int)==95)=Zjf m),rfl⟩
  rw [Bool.eq_iff_iff]
  simp [Zjf]
  omega
def Zfi (s:ByteArray) (j:Nat):Bool:=Zjf (s.get! j).toNat||(decide (0<j)&&(decide (48<=(s.get! j).toNat)&&decide ((s.get! j).toNat<=57)))
def Zck (s:ByteArray):Bool:=(List.range s.size).all (Zfi s)&&decide (0<s.size)
theorem Zna {s:ByteArray} {j:Nat} (h:(List.range j).all (Zfi s)=true) (H:Zfi s j=true):(List.range (j+1)).all (Zfi s)=true:=by
 rw [List.range_succ,List.all_append,h];simp [H]
theorem Zlt {s:ByteArray} {j:Nat} (N:j<s.size) (H:Zfi s j=false):Zck s=false:=by
 unfold Zck
 rw [Bool.and_eq_false_iff]
 left
 rw [List.all_eq_false]
 exact ⟨j,List.mem_range.2 N,by simp [H]⟩
set_option maxHeartbeats 1000000 in
theorem Zy0 (s:ByteArray) (E:s.size<=maxLen) (w:World):Calls Tryz.prog 117 #[.string s] w fun e w'=>e=.returned (.bool (Zck s))/\w'=w:=by
 unfold maxLen at E
 go_enter Tryz.func117,Tryz.ntmps117
 go_wp2_with fail
 go_loopw [6] (fun i wr=>∃ j:Nat,j<=s.size/\i=.int .i64 j/\wr=w/\(List.range j).all (Zfi s)=true) (fun i _=>s.size - (RowKit.intOf i).toNat)
 case atStart=>exact ⟨0,Nat.zero_le _,rfl,rfl,rfl⟩
 case round =>
  obtain ⟨j,N,rfl,rfl,v⟩:=hrel
  have f:=Za v
  clear v
  by_cases hlt:j<s.size
  ·have hb:s[j]=s.get! j:=by simp [ByteArray.get!,ByteArray.getElem_eq_getElem_data,hlt]
   have x:Hid (∀ m,(s.get! j).toNat=m->Zfi s j=(Zjf m||(decide (0<j)&&(decide (48<=m)&&decide (m<=57))))):=fun m h=>by subst h;rfl
   go_wp2_with fail
   refine (Jbz _ wr).mono ?_
   rintro e _ ⟨rfl,rfl⟩
   obtain ⟨m,hm⟩:∃ m,(s.get! j).toNat=m:=⟨_,rfl⟩
   have q:=Za (x.out m hm)
   rw [hm]
   have S:(s[j]).toNat=m:=by rw [hb];exact hm
   clear x
   cases hl:Zjf m with
   | true =>
    have o:=Za hl
    clear hl
    go_wp2_with fail
    go_roundw
    case rel =>
     refine ⟨j+1,by omega,by go_num,trivial,Zna f.out ?_⟩
     rw [q.out,o.out];rfl
    case measure=>simp [RowKit.intOf];omega
   | false =>
    have o:=Za hl
    clear hl
    by_cases h0:j=0
    ·have d:Hid (Zck s=false):=Zlt hlt (by rw [q.out,o.out,h0];rfl)
     have L:((j:Int)==0)=true:=by simp [h0]
     go_wp2_with fail
     go_ret
     exact ⟨by rw [d.out];rfl,rfl⟩
    ·have L:((j:Int)==0)=false:=by simp [h0]
     by_cases n:m<48
     ·have I:(m:Int)<48:=by omega
      have d:Hid (Zck s=false):=Zlt hlt (by rw [q.out,o.out];simp;omega)
      go_wp2_with fail
      go_ret
      exact ⟨by rw [d.out];rfl,rfl⟩
     ·have I:¬ (m:Int)<48:=by omega
      by_cases g:57<m
      ·have K:(57:Int)<m:=by omega
       have d:Hid (Zck s=false):=Zlt hlt (by rw [q.out,o.out];simp;omega)
       go_wp2_with fail
       go_ret
       exact ⟨by rw [d.out];rfl,rfl⟩
      ·have K:¬ (57:Int)<m:=by omega
       go_wp2_with fail
       go_roundw
       case rel =>
        refine ⟨j+1,by omega,by go_num,trivial,Zna f.out ?_⟩
        rw [q.out,o.out]
        simp
        omega
       case measure=>simp [RowKit.intOf];omega
  ·have M:j=s.size:=by omega
   go_wp2_with fail
   go_ret
   refine ⟨congrArg (fun b=>Ending.returned (.bool b)) (?_:(!s.toList.isEmpty)=Zck s),rfl⟩
   have hn:=f.out
   rw [M] at hn
   unfold Zck
   rw [hn,ByteArray.toList_eq,Bool.true_and,Bool.eq_iff_iff]
   have hz:s.size=s.data.toList.length:=rfl
   rw [hz]
   cases s.data.toList<;>simp
def Zj9 (l:List UInt8):List UInt8:=(l.map fun c=>if c=96 then [96,96] else [c]).flatten
theorem Zdw (c:UInt8) (l:List UInt8):Zj9 (c::l)=(if c=96 then [96,96] else [c])++Zj9 l:=by simp [Zj9]
theorem Zub (l:List UInt8):(Zj9 l).length<=2*l.length:=by
 induction l with
 | nil=>simp [Zj9]
 | cons c r ih =>
  rw [Zdw]
  simp only [List.length_append,List.length_cons]
  split<;>simp<;>omega
theorem Jej (l:List UInt8):index (96::l) [96]=0:=by
 rw [index,if_pos];simp
theorem Jb0 {c:UInt8} (h:c≠96) (l:List UInt8):index (c::l) [96]=if index l [96]==-1 then -1 else index l [96]+1:=by
 rw [index,if_neg]
 simp
 exact fun e=>h e.symm
theorem Zor {c:UInt8} (h:c≠96) (l:List UInt8):∀ k,replaceK [96] [96,96] k (c::l)=c::replaceK [96] [96,96] k l
 | 0=>rfl
 | k+1=>by
  rw [replaceK,replaceK,Jb0 h]
  by_cases e:index l [96]=-1
  ·simp [e]
  ·have V:=Lib.index_ge l [96]
   have O:(index l [96]==-1)=false:=by simpa using e
   obtain ⟨i,T⟩:∃ i:Nat,index l [96]=i:=⟨(index l [96]).toNat,by omega⟩
   rw [T] at O |-
   have e2:(((i:Int)+1==-1))=false:=by simp;omega
   rw [O]
   simp only [Bool.false_eq_true,if_false,e2]
   rw [show ((i:Int)+1).toNat=i+1 from by omega,Int.toNat_natCast]
   rfl
theorem Zhr:∀ l:List UInt8,replaceK [96] [96,96] (count l [96]) l=Zj9 l
 | []=>by rw [show count [] [96]=0 from rfl];rfl
 | c::l=>by
  by_cases h:c=96
  ·subst h
   rw [count_cons_eq,Nat.add_comm,replaceK,Jej,Zdw,if_pos rfl]
   have e:((0:Int)==-1)=false:=rfl
   rw [e]
   simp only [Bool.false_eq_true,if_false]
   show []++[96,96]++replaceK [96] [96,96] (count l [96]) l=_
   rw [Zhr l];rfl
  ·rw [count_cons_ne c 96 l h,Zor h,Zhr l,Zdw,if_neg h];rfl
theorem Zl7 (l:List UInt8):replaceAll l [96] [96,96]=Zj9 l:=by
 unfold replaceAll replace replaceNum
 rw [if_neg (by decide),if_pos (.inl (by decide))]
 exact Zhr l
def Zaq (s:ByteArray):ByteArray:=if Zck s then s else ⟨#[96]⟩++⟨(Zj9 s.data.toList).toArray⟩++⟨#[96]⟩
theorem Zqt (s:ByteArray):0<(Zaq s).size:=by
 unfold Zaq
 by_cases h:Zck s=true
 ·rw [if_pos h]
  unfold Zck at h
  simp at h
  exact h.2
 ·rw [if_neg h]
  simp only [ByteArray.size_append]
  have:(⟨#[96]⟩:ByteArray).size=1:=rfl
  omega
theorem Zy1 (s:ByteArray):(Zaq s).size<=2*s.size+2:=by
 unfold Zaq
 split
 ·omega
 ·simp only [ByteArray.size_append]
  have n:(⟨#[96]⟩:ByteArray).size=1:=rfl
  have g:(⟨(Zj9 s.data.toList).toArray⟩:ByteArray).size=(Zj9 s.data.toList).length:=by simp [ByteArray.size]
  have P:=Zub s.data.toList
  have U:s.data.toList.length=s.size:=rfl
  omega
set_option maxHeartbeats 1000000 in
theorem Zqu (s:ByteArray) (E:s.size<=1000000000) (hv:Lib.validD s.data.toList=true) (w:World) (z:Zyf w) :
  Calls Tryz.prog 73 #[.string s] w fun e w'=>e=.returned (.string (Zaq s))/\Below w.heap.size w w':=by
 have y:s.size<=maxLen:=by unfold maxLen;omega
 obtain ⟨m,hm⟩:=z.ml
 have g:2<w.heap.size:=Nat.lt_of_lt_of_le (by decide) z.e.room
 have u:=countB_mul_le ⟨#[96]⟩ (by decide) s.size s (Nat.le_refl _)
 have n:(⟨#[96]⟩:ByteArray).size=1:=rfl
 have h22:(⟨#[96,96]⟩:ByteArray).size=2:=rfl
 have d:Hid (∀ w',Below w.heap.size w w'->Calls Tryz.prog 118 #[.string s,.string ⟨#[96]⟩,.string ⟨#[96,96]⟩] w' fun e w2=>e=.returned (.string ⟨(Zj9 s.data.toList).toArray⟩)/\Below w'.heap.size w' w2):=fun w' hb=>by
  have:=Tryz.strings_ReplaceAll s ⟨#[96]⟩ ⟨#[96,96]⟩ m w' (by omega) ((hb.cell (p:=⟨2,0,none⟩) g).trans hm) (by decide) (by rw [h22];rw [n] at u;omega)
  rw [show (⟨#[96]⟩:ByteArray).data.toList=[96] from rfl,show (⟨#[96,96]⟩:ByteArray).data.toList=[96,96] from rfl,Zl7] at this
  exact this
 have G:=Za (Zo3 s (by omega) w z.e)
 rw [hv] at G
 obtain ⟨D,A⟩:∃ D:ByteArray,(⟨(Zj9 s.data.toList).toArray⟩:ByteArray)=D:=⟨_,rfl⟩
 have a0:D.size<=2000000000:=by
  rw [<- A]
  have a:=Zub s.data.toList
  have b:s.data.toList.length=s.size:=rfl
  have c:(⟨(Zj9 s.data.toList).toArray⟩:ByteArray).size=(Zj9 s.data.toList).length:=by simp [ByteArray.size]
  omega
 rw [A] at d
 have z1:¬ 9223372036854775807<1+D.size:=by omega
 have z2:¬ 9223372036854775807<1+D.size+1:=by omega
 have W:=Za A
 clear A u hm z g n h22
 go_enter Tryz.func73,Tryz.ntmps73
 go_wp2_with fail
 refine G.out.mono ?_
 rintro e w1 ⟨rfl,hb⟩
 have B:=Za hb
 have HC:=Za (Zy0 s y w1)
 clear hb E y G
 go_wp2_with fail
 refine HC.out.mono ?_
 rintro e _ ⟨rfl,rfl⟩
 cases hb:Zck s with
 | true =>
  have C:Hid (Zaq s=s):=by show _=_;unfold Zaq;rw [if_pos hb]
  clear hb
  go_wp2_with fail
  go_ret
  exact ⟨by rw [C.out];rfl,B.out⟩
 | false =>
  have C:Hid (Zaq s=⟨#[96]⟩++D++⟨#[96]⟩):=by show _=_;unfold Zaq;rw [if_neg (by simp [hb]),W.out]
  clear hb
  go_wp2_with fail
  refine (d.out _ B.out).mono ?_
  rintro e Y ⟨rfl,t⟩
  have F:Hid (Below w.heap.size w Y):=Zm B.out t
  clear t
  go_wp2_with fail
  go_ret
  exact ⟨by rw [C.out];rfl,F.out⟩
end Go.Proofs.YthfilnflgahcjaaGreatDoor

namespace Go.Proofs.YthfilnflgahcjaaGreatDoor
open Go.RowKit Go.Shelf
set_option linter.all false
structure Jhr (s:Zak):Prop where
 n:W64 s.nodes
 r:W64 s.rels
 l:∀ x ∈ s.labels,x.1.size<=3000/\W64 x.2
 t:∀ x ∈ s.types,x.1.size<=3000/\W64 x.2
 e:∀ x ∈ s.ends,x.1.size<=3000/\x.2.1.size<=3000/\W64 x.2.2.2
 k:∀ x ∈ s.keys,x.1.size<=3000/\x.2.1.size<=3000/\W64 x.2.2.1/\W64 x.2.2.2
end Go.Proofs.YthfilnflgahcjaaGreatDoor

namespace Go.Proofs.YthfilnflgahcjaaGreatDoor
open Go.RowKit Go.Shelf
set_option linter.all false
theorem Zo6 {w w':World} {B e size n:Nat} {v:Value} {xs:List Value} (h:w.ownsRow B e size v n xs) (hb:Below w.heap.size w w'):w'.ownsRow B e size v n xs:=by
 obtain ⟨p,⟨m,k⟩ | ⟨g,cap,j,m,k,o,q⟩⟩:=h
 ·exact ⟨p,.inl ⟨m,k⟩⟩
 ·exact ⟨p,.inr ⟨g,cap,j,m,k,(hb.block g (Array.getElem?_eq_some_iff.1 o).1).trans o,q⟩⟩
theorem Jgb.keep {B b:Nat} {l:List UInt8} {w w':World} (h:Jgb B b l w) (hb:Below w.heap.size w w'):Jgb B b l w':=by
 rcases h with h | h
 ·left
  have i:=h.lt
  obtain ⟨hB,v,d,c,f⟩:=h
  exact ⟨hB,v,(hb.block b i).trans d,Zo6 c hb,f⟩
 ·right
  have i:=h.lt
  obtain ⟨hB,v,d,c,f⟩:=h
  exact ⟨hB,v,(hb.block b i).trans d,Zo6 c hb,f⟩
theorem Jgb.lt {B b:Nat} {l:List UInt8} {w:World} (h:Jgb B b l w):b<w.heap.size:=by
 rcases h with h | h<;>exact Lib.BuilderAt.lt h
end Go.Proofs.YthfilnflgahcjaaGreatDoor

namespace Go.Proofs.YthfilnflgahcjaaGreatDoor
open Go.RowKit Go.Shelf Go.Maps
set_option linter.all false
attribute [local go_sem] Oper.semAt_some
theorem Zrm (w:World):upC w=fun w'=>∃ u:Up w,w'=u.x:=rfl
end Go.Proofs.YthfilnflgahcjaaGreatDoor

