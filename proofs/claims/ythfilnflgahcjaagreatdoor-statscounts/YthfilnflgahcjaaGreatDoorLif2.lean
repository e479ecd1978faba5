/- The library's variables that the telling of counts reads. -/
import Derived.Test.YthfilnflgahcjaaGreatDoorLift
import Derived.Test.YthfilnflgahcjaaGreatDoorJoin26
namespace Go.Proofs.YthfilnflgahcjaaGreatDoor
open Go.ChangeShapes Go.WideShapes Go.ChangeAt Go.RowKit Go.Shelf
set_option linter.all false
theorem Ji1:Tryz.prog.globalNamed "internal/strconv.uint64pow10" = some 3:=by kernel_rfl
theorem Zzn:(Rows.laid_internal_strconv_uint64pow10:DataW Unit)=Lib.tabData .u64 Lib.pow10Tab:=by kernel_rfl
theorem Zq7 {W:World} (h:laidMet Tryz.prog Zgr W):Lib.TabIs Tryz.prog W "internal/strconv.uint64pow10" .u64 Lib.pow10Tab:=by
 obtain ⟨g,t,cs,fuel,p,d,c,b,e⟩:Lib.VarReads Tryz.prog W "internal/strconv.uint64pow10" (Lib.tabData .u64 Lib.pow10Tab):=Zzn▸Lib.laidMet.reads h (.tail _ (.tail _ (.head _)))
 obtain rfl:=Option.some.inj (Ji1.symm.trans d)
 obtain rfl:=Option.some.inj ((show (Tryz.prog.globals[3]?).map (·.type)=some 270 by kernel_rfl).symm.trans c)
 unfold Lib.TabIs
 rw [b,<- Lib.cells_of_tab Tryz.underlying270 Tryz.underlying106 (by kernel_rfl) (by kernel_rfl) e]
theorem Jc5 {W:World} (h:laidMet Tryz.prog Zgr W) (a:W.ShapedOpen Tryz.prog):Zyf W :=
 ⟨Je9 h a,Zjo a,Zq7 h⟩
end Go.Proofs.YthfilnflgahcjaaGreatDoor
