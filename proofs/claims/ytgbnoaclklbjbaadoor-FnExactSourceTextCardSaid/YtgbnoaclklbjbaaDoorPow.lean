/- The table of powers of ten, and strconv.Itoa by its contract. -/
import Derived.Test.YtgbnoaclklbjbaaDoorRows
import Derived.Test.YtgbnoaclklbjbaaDoorCardKit
import Derived.Test.YtgbnoaclklbjbaaDoorShelf
import Derived.WalkKit
import Derived.ProofKit
import Derived.OpenShut
import Derived.Handy
import Derived.Below
import Derived.Laws.OwnMore
import Derived.Lib.Hide
import Derived.Lib.LaidTab
import Derived.Lib.ItoaLen
namespace Go.Proofs.YtgbnoaclklbjbaaDoor
open Go.ChangeShapes Go.WideShapes Go.ChangeAt Go.RowKit
theorem below_grow {w : World} {k : Nat} {os : Array Obj} : Below w.heap.size w (Sort.grow (w.drewN k) os) := ⟨rfl, rfl, rfl, by show w.heap.size ≤ (w.heap ++ os).size; rw [Array.size_append]; omega, fun _ hj => Sort.heap_grow_old w os hj⟩
/-- The table that Itoa reads. -/
def Pow10 (w : World) : Prop := Lib.TabIs Tryd.prog w "internal/strconv.uint64pow10" .u64 Lib.pow10Tab
theorem gPow : Tryd.prog.globalNamed "internal/strconv.uint64pow10" = some 0 := by kernel_rfl
theorem Pow10.lt {w : World} (h : Pow10 w) : 0 < w.heap.size := by
  rcases Nat.lt_or_ge 0 w.heap.size with h' | h'
  · exact h'
  · unfold Pow10 Lib.TabIs at h
    simp [World.var?, gPow, Array.getElem?_eq_none h'] at h
theorem Pow10.below {B : Nat} {w w' : World} (h : Pow10 w) (g : Below B w w') (hB : w.heap.size ≤ B) : Pow10 w' :=
  var?_below (g.mono hB) gPow h.lt h
theorem itoa_any (n : Int) (h0 : -2147483648 ≤ n) (h1 : n ≤ 2147483647) (w : World) (ht : Pow10 w) : Calls Tryd.prog 22 #[.int .i64 n] w fun e w' => e = .returned (.string ⟨(Lib.itoa n).toArray⟩) ∧ Below w.heap.size w w' := by
  refine (Tryd.strconv_Itoa n (by omega) (by omega) w ht).mono ?_
  rintro e w' ⟨he, k, os, rfl⟩
  exact ⟨he, below_grow⟩
theorem tPow : (Tryd.prog.globals[0]?).map (·.type) = some 80 := by kernel_rfl
theorem cPow : Tryd.prog.cellsOf 80 = 20 := by kernel_rfl
theorem cU64 : Tryd.prog.cellsOf 75 = 1 := by kernel_rfl
/-- What the row's list gives: the table of powers. -/
theorem pow_of {W : World} (h : laidMetH Tryd.prog [("internal/strconv.uint64pow10", Rows.laid_internal_strconv_uint64pow10)] W) : Pow10 W := by
  have h' : laidMet Tryd.prog (("internal/strconv.uint64pow10", Lib.tabData .u64 Lib.pow10Tab) :: []) W := h
  exact Lib.tabIs_of_head gPow tPow Tryd.underlying80 Tryd.underlying75 cU64 cPow h'
end Go.Proofs.YtgbnoaclklbjbaaDoor
