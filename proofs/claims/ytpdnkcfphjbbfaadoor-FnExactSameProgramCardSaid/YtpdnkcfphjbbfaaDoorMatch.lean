/- MatchOf of impl and of spec, and its exact law. -/
import Derived.Test.YtpdnkcfphjbbfaaDoorInsRow
import Derived.Test.YtpdnkcfphjbbfaaDoorVer
import Derived.IntWalk
import Derived.WalkSmall
import Derived.Deep.RegionWith
namespace Go.Proofs.YtpdnkcfphjbbfaaDoor
open Go.ChangeShapes Go.WideShapes Go.ChangeAt Go.RowKit
/-- Structures counted from the structure itself on. -/
def mGo : List Ins → Int → Nat → Int → Option (Int × Int)
  | [], _, _, _ => none
  | x :: r, i, d, o =>
    if x.1 = 21 ∨ x.1 = 24 then mGo r (i + 1) (d + 1) o
    else if x.1 = 22 then mGo r (i + 1) d (if d = 1 then i else o)
    else if x.1 = 23 then (if d = 1 then some (o, i) else mGo r (i + 1) (d - 1) o)
    else mGo r (i + 1) d o
theorem mGo_eq : ∀ (l : List Ins) (i : Int) (d : Nat) (o : Int), mGo l i (d + 1) o = vMatchGo l i d o
  | [], _, _, _ => rfl
  | x :: r, i, d, o => by
    rw [mGo, vMatchGo.eq_def]
    dsimp only
    split
    · exact mGo_eq r (i + 1) (d + 1) o
    · split
      · rw [mGo_eq]; simp
      · split
        · cases d with
          | zero => rfl
          | succ d => rw [if_neg (by omega)]; exact mGo_eq r (i + 1) d o
        · exact mGo_eq r (i + 1) d o
theorem mGo_at {zs : List Ins} {k : Nat} (h : k < zs.length) (hx : (zs.getD k (0, 0)).1 = 21 ∨ (zs.getD k (0, 0)).1 = 24) : mGo (zs.drop k) k 0 0 = vMatch zs k := by
  have e : zs.getD k (0, 0) = zs[k] := by simp [List.getD, h]
  rw [e] at hx
  rw [List.drop_eq_getElem_cons h, mGo, if_pos hx, mGo_eq]
  rfl
def mRes (r : Option (Int × Int)) : Value := match r with | some x => .tuple #[.int .i64 x.1, .int .i64 x.2, .int .i64 0] | none => .tuple #[.int .i64 0, .int .i64 0, .int .i64 14]
def sRes (r : Option (Int × Int)) : Value := match r with | some x => .tuple #[.int .i64 x.1, .int .i64 x.2, .bool true] | none => .tuple #[.int .i64 0, .int .i64 0, .bool false]
theorem drop_x {zs : List Ins} {j : Nat} (h : j < zs.length) : zs.drop j = ((zs.getD j (0, 0)).1, (zs.getD j (0, 0)).2) :: zs.drop (j + 1) := by
  have e : zs.getD j (0, 0) = zs[j] := by simp [List.getD, h]
  rw [List.drop_eq_getElem_cons h, e]
theorem vGo_at {zs : List Ins} {k : Nat} : vMatchGo (zs.drop (k + 1)) ((k : Int) + 1) 0 0 = vMatch zs k := rfl
/-- What MatchOf answers. -/
def matchF (zs : List Ins) (p : Int) : Value :=
  if 4096 < zs.length then .tuple #[.int .i64 0, .int .i64 0, .int .i64 2] else if 40 < zs.length then .tuple #[.int .i64 0, .int .i64 0, .int .i64 6]
  else if p < 0 ∨ (zs.length : Int) ≤ p then .tuple #[.int .i64 0, .int .i64 0, .int .i64 4]
  else if (zs.getD p.toNat (0, 0)).1 ≠ 21 ∧ (zs.getD p.toNat (0, 0)).1 ≠ 24 then .tuple #[.int .i64 0, .int .i64 0, .int .i64 10]
  else mRes (vMatch zs p.toNat)
end Go.Proofs.YtpdnkcfphjbbfaaDoor
