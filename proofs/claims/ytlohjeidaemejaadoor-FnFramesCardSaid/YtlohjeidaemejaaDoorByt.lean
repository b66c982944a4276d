/- impl.BytesOf and spec.BytesOf compute the same function. -/
import Derived.Test.YtlohjeidaemejaaDoorRows
import Derived.Test.YtlohjeidaemejaaDoorOwn
import Derived.Test.YtlohjeidaemejaaDoorIdx
import Derived.Test.YtlohjeidaemejaaDoorHex
import Derived.WalkSpells
namespace Go.Proofs.YtlohjeidaemejaaDoor
open Go.ChangeShapes Go.WideShapes Go.ChangeAt Go.RowKit Go.PlainAid
/-- The byte that digits 2j and 2j + 1 stand for. -/
def byAt (s : ByteArray) (j : Nat) : UInt8 := UInt8.ofNat (16 * dg (bt s (2 * j)) + dg (bt s (2 * j + 1))).toNat
def bysTo (s : ByteArray) : Nat → List UInt8
  | 0 => []
  | k + 1 => bysTo s k ++ [byAt s k]
theorem bysTo_len (s : ByteArray) (k : Nat) : (bysTo s k).length = k := by
  induction k with
  | zero => rfl
  | succ k ih => simp [bysTo, ih]
def okP (s : ByteArray) (j : Nat) : Prop := 0 ≤ dg (bt s (2 * j)) ∧ 0 ≤ dg (bt s (2 * j + 1))
instance (s : ByteArray) (j : Nat) : Decidable (okP s j) := inferInstanceAs (Decidable (_ ∧ _))
/-- Is s the text of bytes? -/
def bysOK (s : ByteArray) : Bool := decide (s.size % 2 = 0 ∧ ∀ j, j < s.size / 2 → okP s j)
def bysB (s : ByteArray) : ByteArray := if bysOK s = true then ⟨(bysTo s (s.size / 2)).toArray⟩ else ⟨#[]⟩
theorem bysOK_odd {s : ByteArray} (h : ¬ s.size % 2 = 0) : bysOK s = false := decide_eq_false fun x => h x.1
theorem bysOK_bad {s : ByteArray} {k : Nat} (hk : k < s.size / 2) (h : ¬ okP s k) : bysOK s = false := decide_eq_false fun x => h (x.2 k hk)
theorem bysOK_yes {s : ByteArray} (h : s.size % 2 = 0) (g : ∀ j, j < s.size / 2 → okP s j) : bysOK s = true := decide_eq_true ⟨h, g⟩
theorem bysB_no {s : ByteArray} (h : bysOK s = false) : bysB s = ⟨#[]⟩ := by unfold bysB; rw [h]; rfl
theorem bysB_yes {s : ByteArray} (h : bysOK s = true) : bysB s = ⟨(bysTo s (s.size / 2)).toArray⟩ := by unfold bysB; rw [h]; rfl
theorem ret2_sb {a b : ByteArray} {c d : Bool} (h : a = b) (k : c = d) : Ending.returned (.tuple #[.string a, .bool c]) = .returned (.tuple #[.string b, .bool d]) := by rw [h, k]
theorem byAt_num (s : ByteArray) (k : Nat) {h l : Int} (hh : dg (bt s (2 * k)) = h) (hl : dg (bt s (2 * k + 1)) = l) (h0 : 0 ≤ h) (l0 : 0 ≤ l) : 16 * h + l = ((byAt s k).toNat : Int) := by
  have b1 := dg_rng (bt s (2 * k))
  have b2 := dg_rng (bt s (2 * k + 1))
  unfold byAt
  rw [hh, hl] at *
  rw [UInt8.toNat_ofNat']
  omega
theorem bysTo_succ (s : ByteArray) (k : Nat) {n : Int} {B : Nat} {v : Value} {w : World} (hn : n = ((byAt s k).toNat : Int)) {e : TypeId}
    (h : w.ownsRow B e 1 v (k + 1) (u8s (bysTo s k) ++ [.int .u8 n])) : w.ownsRow B e 1 v (k + 1) (u8s (bysTo s (k + 1))) := by
  rw [hn, u8s_snoc] at h
  exact h
end Go.Proofs.YtlohjeidaemejaaDoor
