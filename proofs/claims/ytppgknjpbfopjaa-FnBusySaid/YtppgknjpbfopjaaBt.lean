/- laws.at lies in its range; for seats that draw no source. -/
import Derived.Test.YtppgknjpbfopjaaRows
import Derived.WalkKit
import Derived.ProofKit
import Derived.OpenShut
import Derived.Handy
import Derived.Below
import Derived.Laws.OwnMore
import Derived.Lib.Hide
import Derived.Deep.QuietTactic
import Derived.BigQuiet
import Derived.StillTailTactics
import Derived.IntWalk
import Derived.WalkSpells
import Derived.WalkSmall
namespace Go.Proofs.Ytppgknjpbfopjaa
open Go.ChangeShapes Go.WideShapes Go.ChangeAt Go.RowKit
/-- A slice of bytes that came in: nil, or a row of cells in blocks below B. -/
def Bytes0 (w : World) (B : Nat) (a : Option Addr) (n : Nat) : Prop :=
  n ≤ maxLen ∧ (0 < n → ∃ x, a = some x ∧ x.block < B ∧ ∀ i, i < n → ∃ z : Int, 0 ≤ z ∧ z ≤ 255 ∧ w.cell? (x.add i) = some (.int .u8 z))
theorem grown_set (w : World) (p i : Nat) (u : Value) : w.grownBy (w.setCell ⟨p, i, none⟩ u) (some p) :=
  ⟨rfl, rfl, rfl, by simp, fun k _ hk => heap_setCell_other w ⟨p, i, none⟩ k u (fun e => hk (by simp [e]))⟩
theorem add_block (x : Addr) (k : Nat) : (x.add k).block = x.block := by unfold Addr.add; split <;> rfl
def AtPost (w : World) (k : Int) (e : Ending) (w' : World) : Prop := ∃ v : Int, e = .returned (.int .i64 v) ∧ 0 ≤ v ∧ v ≤ k - 1 ∧ ∃ q, w' = w.drewN q
theorem at_any (a : Option Addr) (n c : Nat) (w : World) (h : Bytes0 w w.heap.size a n) (hn : n ≤ 1048576) (i k : Int) (hi : 0 ≤ i ∧ i ≤ 1000000) (hk : 1 ≤ k ∧ k ≤ 1000000) :
    Calls Try.prog 14 #[.slice a n c, .int .i64 i, .int .i64 k] w (AtPost w k) := by
  by_cases k1 : k ≤ 1
  · go_enter Try.func14, Try.ntmps14
    go_wp2
    go_ret
    exact ⟨0, rfl, by omega, by omega, 0, rfl⟩
  by_cases n0 : n = 0
  · have hn0 : ((n : Int) == 0) = true := by rw [n0]; rfl
    have H := Lib.hid n0
    clear n0 h
    go_enter Try.func14, Try.ntmps14
    go_wp2
    go_ret
    exact ⟨_, rfl, Int.emod_nonneg _ (by omega), by have := Int.emod_lt_of_pos (i * 7) (b := k) (by omega); omega, 0, rfl⟩
  have hn0 : ((n : Int) == 0) = false := beq_eq_false_iff_ne.2 (by omega)
  obtain ⟨j, rfl⟩ := Int.eq_ofNat_of_zero_le hi.1
  obtain ⟨x, rfl, hx, hc⟩ := h.2 (by omega)
  obtain ⟨z1, a0, a1, e1⟩ := hc (j % n) (Nat.mod_lt _ (by omega))
  obtain ⟨z2, b0, b1, e2⟩ := hc ((j + 1) % n) (Nat.mod_lt _ (by omega))
  have hp1 : j % n < n := Nat.mod_lt _ (by omega)
  have hp2 : (j + 1) % n < n := Nat.mod_lt _ (by omega)
  have t1 : ((j : Nat) : Int).tmod (n : Int) = ((j % n : Nat) : Int) := by rw [IntWalk.rem_in _ _ (by omega)]; rfl
  have t2 : (((j : Nat) : Int) + 1).tmod (n : Int) = (((j + 1) % n : Nat) : Int) := by rw [IntWalk.rem_in _ _ (by omega)]; rfl
  have HX : Hid (0 ≤ (wrap64 (z1 * 31 + z2 + wrap64 ((j : Int) / (n : Int)))).tmod k ∧ (wrap64 (z1 * 31 + z2 + wrap64 ((j : Int) / (n : Int)))).tmod k ≤ k - 1) := by
    have hd0 : (0 : Int) ≤ (j : Int) / (n : Int) := Int.ediv_nonneg (by omega) (by omega)
    have hd1 : (j : Int) / (n : Int) ≤ (j : Int) := Int.ediv_le_self _ (by omega)
    rw [IntWalk.wrap64_in ((j : Int) / (n : Int)) (by omega), IntWalk.wrap64_in _ (by omega), IntWalk.rem_in _ _ (by omega)]
    refine Lib.hid ⟨Int.emod_nonneg _ (by omega), ?_⟩
    have := Int.emod_lt_of_pos (z1 * 31 + z2 + (j : Int) / (n : Int)) (b := k) (by omega)
    omega
  generalize j % n = p at *
  generalize (j + 1) % n = q at *
  have u1 := IntWalk.i64_in ((j : Int) + 1) (by omega)
  have u2 := IntWalk.i64_in z1 (by omega)
  have u3 := IntWalk.i64_in z2 (by omega)
  have u4 := IntWalk.i64_in (z1 * 31) (by omega)
  have u5 := IntWalk.i64_in (z1 * 31 + z2) (by omega)
  have g1 : (p : Int) < (n : Int) := by omega
  have g2 : (q : Int) < (n : Int) := by omega
  clear h hc hx
  go_enter Try.func14, Try.ntmps14
  go_wp2
  go_quiet (fail)
  go_wp2
  go_ret
  exact ⟨_, rfl, HX.out.1, HX.out.2, _, rfl⟩
end Go.Proofs.Ytppgknjpbfopjaa
