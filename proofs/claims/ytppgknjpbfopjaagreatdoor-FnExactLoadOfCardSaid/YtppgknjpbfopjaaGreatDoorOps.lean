/- The operations of impl and of spec: their names, their ticks, the range of A. -/
import Derived.Test.YtppgknjpbfopjaaGreatDoorRows
import Derived.WalkKit
import Derived.ProofKit
import Derived.OpenShut
import Derived.Handy
import Derived.Below
import Derived.Laws.OwnMore
import Derived.Lib.Hide
import Derived.Deep.QuietTactic
import Derived.BigQuiet
import Derived.Test.YtppgknjpbfopjaaGreatDoorCardKit
namespace Go.Proofs.YtppgknjpbfopjaaGreatDoor
open Go.ChangeShapes Go.WideShapes Go.ChangeAt Go.RowKit
def opRows : List (ByteArray × Int × Int × Int) := [(⟨#[]⟩, 0, 0, 0), (⟨#[112, 117, 115, 104]⟩, 1, (-2147483648), 2147483647), (⟨#[102, 108, 97, 103]⟩, 1, 0, 1), (⟨#[108, 111, 97, 100]⟩, 1, 0, 15), (⟨#[115, 116, 111, 114, 101]⟩, 1, 0, 15), (⟨#[105, 110]⟩, 1, 0, 7), (⟨#[111, 117, 116]⟩, 1, 0, 7), (⟨#[112, 101, 101, 107]⟩, 2, 0, 7), (⟨#[112, 111, 107, 101]⟩, 2, 0, 7), (⟨#[97, 100, 100]⟩, 1, 0, 0), (⟨#[115, 117, 98]⟩, 1, 0, 0), (⟨#[109, 117, 108]⟩, 2, 0, 0), (⟨#[100, 105, 118]⟩, 4, 0, 0), (⟨#[108, 101, 115, 115]⟩, 1, 0, 0), (⟨#[115, 97, 109, 101]⟩, 1, 0, 0), (⟨#[97, 110, 100]⟩, 1, 0, 0), (⟨#[111, 114]⟩, 1, 0, 0), (⟨#[110, 111, 116]⟩, 1, 0, 0), (⟨#[115, 101, 108]⟩, 2, 0, 0), (⟨#[98, 108, 111, 99, 107]⟩, 3, 0, 7), (⟨#[118, 97, 108, 117, 101]⟩, 1, 0, 7), (⟨#[105, 102]⟩, 1, 0, 0), (⟨#[101, 108, 115, 101]⟩, 1, 0, 0), (⟨#[101, 110, 100]⟩, 1, 0, 0), (⟨#[114, 101, 112, 101, 97, 116]⟩, 1, 1, 20), (⟨#[99, 117, 116]⟩, 1, 0, 0), (⟨#[99, 97, 108, 108]⟩, 2, 0, 5)]
def opNm (k : Nat) : ByteArray := (opRows.getD k (⟨#[]⟩, 0, 0, 0)).1
def opTk (k : Nat) : Int := (opRows.getD k (⟨#[]⟩, 0, 0, 0)).2.1
def opLo (k : Nat) : Int := (opRows.getD k (⟨#[]⟩, 0, 0, 0)).2.2.1
def opHi (k : Nat) : Int := (opRows.getD k (⟨#[]⟩, 0, 0, 0)).2.2.2
def opB (n : Int) : Bool := decide (1 ≤ n ∧ n ≤ 26)
theorem opB_yes {n : Int} (h : opB n = true) : 1 ≤ n ∧ n ≤ 26 := of_decide_eq_true h
theorem opB_no {n : Int} (h : opB n = false) : n < 1 ∨ 26 < n := by have := of_decide_eq_false h; omega
theorem opB_nat {n : Int} (h : opB n = true) : ∃ k : Nat, n = (k : Int) ∧ 1 ≤ k ∧ k ≤ 26 := by
  have := opB_yes h
  exact ⟨n.toNat, by omega, by omega, by omega⟩
theorem opB_in {k : Nat} (h : 1 ≤ k) (g : k ≤ 26) : opB (k : Int) = true := decide_eq_true ⟨by omega, by omega⟩
/-- Every number below 27 by its cases. -/
theorem op_cases {p : Nat → Prop} (h : ∀ k : Fin 27, p k.1) {k : Nat} (hk : k < 27) : p k := h ⟨k, hk⟩
def nameF (n : Int) : ByteArray := if opB n = true then opNm n.toNat else ⟨#[]⟩
theorem nameF_in {k : Nat} (h : 1 ≤ k) (g : k ≤ 26) : nameF (k : Int) = opNm k := by unfold nameF; rw [if_pos (opB_in h g)]; rfl
theorem nameF_out {n : Int} (h : opB n = false) : nameF n = ⟨#[]⟩ := by unfold nameF; rw [if_neg (by rw [h]; simp)]
/-- The table of the operations, as it lies in memory. -/
def OpTab (w : World) : Prop := ∀ k, k < 27 → w.cell? ⟨2, k * 4, none⟩ = some (.string (opNm k)) ∧ w.cell? ⟨2, k * 4 + 1, none⟩ = some (.int .i64 (opTk k)) ∧
  w.cell? ⟨2, k * 4 + 2, none⟩ = some (.int .i64 (opLo k)) ∧ w.cell? ⟨2, k * 4 + 3, none⟩ = some (.int .i64 (opHi k))
theorem OpTab.lt {w : World} (h : OpTab w) : 2 < w.heap.size := by
  have hc := (h 0 (by omega)).1
  rcases Nat.lt_or_ge 2 w.heap.size with h' | h'
  · exact h'
  · simp [World.cell?, Array.getElem?_eq_none h'] at hc
theorem OpTab.below {B : Nat} {w w' : World} (h : OpTab w) (g : Below B w w') (hB : w.heap.size ≤ B) : OpTab w' := fun k hk => by
  have hlt : 2 < B := Nat.lt_of_lt_of_le h.lt hB
  obtain ⟨c0, c1, c2, c3⟩ := h k hk
  exact ⟨(g.cell (p := ⟨2, k * 4, none⟩) hlt).trans c0, (g.cell (p := ⟨2, k * 4 + 1, none⟩) hlt).trans c1,
    (g.cell (p := ⟨2, k * 4 + 2, none⟩) hlt).trans c2, (g.cell (p := ⟨2, k * 4 + 3, none⟩) hlt).trans c3⟩
theorem gOps : Tryz.prog.globalNamed "loop.example/g00684/impl.operations" = some 2 := by kernel_rfl
theorem tOps : (Tryz.prog.globals[2]?).map (·.type) = some 230 := by kernel_rfl
theorem cOp : Tryz.prog.cellsOf 229 = 4 := by kernel_rfl
theorem cStr : Tryz.prog.cellsOf 9 = 1 := by kernel_rfl
theorem cInt : Tryz.prog.cellsOf 3 = 1 := by kernel_rfl
/-- What the row's list gives: the table lies as its rows. -/
theorem opTab_of {W : World} (h : laidMetH Tryz.prog [("loop.example/g00684/impl.operations", Rows.laid_loop_example_g00684_impl_operations)] W) : OpTab W := by
  have h' : laidMet Tryz.prog (("loop.example/g00684/impl.operations", .agg (opRows.map rowD)) :: []) W := h
  intro k hk
  have hl : k < opRows.length := hk
  have := rows4_of_head gOps tOps Tryz.underlying230 Tryz.underlying229 cOp Tryz.underlying9 Tryz.underlying3 Tryz.underlying3 Tryz.underlying3 ⟨rfl, rfl, rfl, rfl⟩ ⟨cStr, cInt, cInt, cInt⟩ h' k opRows[k] (List.getElem?_eq_getElem hl)
  simpa [opNm, opTk, opLo, opHi, List.getD, hl] using this
theorem ret_s1 {a b : ByteArray} (h : a = b) : Ending.returned (.string a) = .returned (.string b) := by rw [h]
theorem ret_b1 {a b : Bool} (h : a = b) : Ending.returned (.bool a) = .returned (.bool b) := by rw [h]
theorem ret_i1 {k : IntKind} {a b : Int} (h : a = b) : Ending.returned (.int k a) = .returned (.int k b) := by rw [h]
theorem ret_ii {k j : IntKind} {a b c d : Int} (h : a = b) (g : c = d) : Ending.returned (.tuple #[.int k a, .int j c]) = .returned (.tuple #[.int k b, .int j d]) := by rw [h, g]
theorem isOp_any (n : Int) (w : World) : Calls Tryz.prog 197 #[.int .i64 n] w fun e w' => e = .returned (.bool (opB n)) ∧ w = w' := by
  go_enter Tryz.func197, Tryz.ntmps197
  go_wp2
  all_goals (go_ret; refine ⟨ret_b1 ?_, rfl⟩; simp only [opB]; rw [Bool.eq_iff_iff]; first | (simp; omega) | (simp; done))
theorem isOp_yes {n : Int} (h : opB n = true) (w : World) : Calls Tryz.prog 197 #[.int .i64 n] w fun e w' => e = .returned (.bool true) ∧ w = w' := h ▸ isOp_any n w
theorem isOp_no {n : Int} (h : opB n = false) (w : World) : Calls Tryz.prog 197 #[.int .i64 n] w fun e w' => e = .returned (.bool false) ∧ w = w' := h ▸ isOp_any n w
def inB (n a b : Int) : Bool := decide (a ≤ n ∧ n ≤ b)
theorem l01InB_any (n a b : Int) (w : World) : Calls Tryz.prog 166 #[.int .i64 n, .int .i64 a, .int .i64 b] w fun e w' => e = .returned (.bool (inB n a b)) ∧ w = w' := by
  go_enter Tryz.func166, Tryz.ntmps166
  go_wp2
  all_goals (go_ret; refine ⟨ret_b1 ?_, rfl⟩; simp only [inB]; rw [Bool.eq_iff_iff]; first | (simp; omega) | (simp; done))
theorem l02Op_any (n : Int) (w : World) : Calls Tryz.prog 224 #[.int .i64 n] w fun e w' => e = .returned (.bool (opB n)) ∧ w = w' := by
  go_enter Tryz.func224, Tryz.ntmps224
  go_wp2_with (go_at_call 166; refine (l01InB_any _ _ _ _).mono ?_; rintro e w' ⟨rfl, rfl⟩)
  go_ret
  exact ⟨rfl, rfl⟩
theorem l02Op_yes {n : Int} (h : opB n = true) (w : World) : Calls Tryz.prog 224 #[.int .i64 n] w fun e w' => e = .returned (.bool true) ∧ w = w' := h ▸ l02Op_any n w
theorem l02Op_no {n : Int} (h : opB n = false) (w : World) : Calls Tryz.prog 224 #[.int .i64 n] w fun e w' => e = .returned (.bool false) ∧ w = w' := h ▸ l02Op_any n w
theorem nm_cell (w : World) (k : Nat) (h1 : 1 ≤ k) (h : k ≤ 26) : (w.alloc (.cells #[.string ⟨#[112, 117, 115, 104]⟩, .string ⟨#[102, 108, 97, 103]⟩, .string ⟨#[108, 111, 97, 100]⟩, .string ⟨#[115, 116, 111, 114, 101]⟩, .string ⟨#[105, 110]⟩, .string ⟨#[111, 117, 116]⟩, .string ⟨#[112, 101, 101, 107]⟩, .string ⟨#[112, 111, 107, 101]⟩, .string ⟨#[97, 100, 100]⟩, .string ⟨#[115, 117, 98]⟩, .string ⟨#[109, 117, 108]⟩, .string ⟨#[100, 105, 118]⟩, .string ⟨#[108, 101, 115, 115]⟩, .string ⟨#[115, 97, 109, 101]⟩, .string ⟨#[97, 110, 100]⟩, .string ⟨#[111, 114]⟩, .string ⟨#[110, 111, 116]⟩, .string ⟨#[115, 101, 108]⟩, .string ⟨#[98, 108, 111, 99, 107]⟩, .string ⟨#[118, 97, 108, 117, 101]⟩, .string ⟨#[105, 102]⟩, .string ⟨#[101, 108, 115, 101]⟩, .string ⟨#[101, 110, 100]⟩, .string ⟨#[114, 101, 112, 101, 97, 116]⟩, .string ⟨#[99, 117, 116]⟩, .string ⟨#[99, 97, 108, 108]⟩] 9)).cell? ⟨w.heap.size, k - 1, none⟩ = some (.string (opNm k)) := by
  rw [cell_of_row _ _ (k - 1) _ _ _ (heap_alloc_new w _)]
  show (((opRows.drop 1).map fun r => Value.string r.1).toArray)[k - 1]? = _
  have hl : k < opRows.length := by show k < 27; omega
  have e : (opRows.drop 1)[k - 1]? = some opRows[k] := by rw [List.getElem?_drop, show 1 + (k - 1) = k by omega, List.getElem?_eq_getElem hl]
  rw [List.getElem?_toArray, List.getElem?_map, e]
  simp only [opNm, List.getD, List.getElem?_eq_getElem hl, Option.map_some, Option.getD_some]
/-- The first operation whose name is s; 0. -/
def opOfF (s : ByteArray) : Int := match (List.range 27).find? (fun i => decide (1 ≤ i) && ((opNm i).toList == s.toList)) with | some i => (i : Int) | none => 0
theorem find_range_is {p : Nat → Bool} {n k : Nat} (hk : k < n) (hp : p k = true) (hj : ∀ j, j < k → p j = false) : (List.range n).find? p = some k := by
  rw [List.find?_range_eq_some]
  exact ⟨hp, by simpa using hk, fun j h => by simp [hj j h]⟩
theorem opOfF_yes {s : ByteArray} {k : Nat} (h1 : 1 ≤ k) (hk : k ≤ 26) (h : ((opNm k).toList == s.toList) = true) (g : ∀ j, 1 ≤ j → j < k → ((opNm j).toList == s.toList) = false) : opOfF s = k := by
  unfold opOfF
  rw [find_range_is (n := 27) (k := k) (by omega) (by simp only [h, h1, decide_true, Bool.and_self]) (fun j hj => by
    by_cases e : 1 ≤ j
    · simp only [g j e hj, Bool.and_false]
    · simp only [e, decide_false, Bool.false_and])]
theorem opOfF_no {s : ByteArray} (g : ∀ j, 1 ≤ j → j ≤ 26 → ((opNm j).toList == s.toList) = false) : opOfF s = 0 := by
  unfold opOfF
  rw [List.find?_eq_none.2 (fun x hx => by
    have hx' : x < 27 := by simpa using hx
    by_cases e : 1 ≤ x
    · simp only [g x e (by omega), Bool.and_false]; simp
    · simp only [e, decide_false, Bool.false_and]; simp)]
theorem opNm_len (k : Nat) : (opNm k).size ≤ 6 := by
  by_cases h : k < 27
  · exact op_cases (p := fun k => (opNm k).size ≤ 6) (by decide) h
  · unfold opNm
    rw [List.getD, List.getElem?_eq_none (by show 27 ≤ k; omega)]
    decide
theorem beq_len {a b : ByteArray} (h : (a.toList == b.toList) = true) : a.size = b.size := by
  have := congrArg List.length (eq_of_beq h)
  simpa [ByteArray.toList_eq] using this
theorem opOfF_long {s : ByteArray} (h : 6 < s.size) : opOfF s = 0 := opOfF_no fun j _ _ => by
  cases e : ((opNm j).toList == s.toList)
  · rfl
  · have := beq_len e
    have := opNm_len j
    omega
/-- The first place of s in a list of texts; -1. -/
def placeF (l : List ByteArray) (s : ByteArray) : Int := match (List.range l.length).find? (fun i => (l.getD i ⟨#[]⟩).toList == s.toList) with | some i => (i : Int) | none => -1
theorem placeF_yes {l : List ByteArray} {s : ByteArray} {k : Nat} (hk : k < l.length) (h : ((l.getD k ⟨#[]⟩).toList == s.toList) = true) (g : ∀ j, j < k → ((l.getD j ⟨#[]⟩).toList == s.toList) = false) : placeF l s = k := by
  unfold placeF
  rw [find_range_is hk h g]
theorem placeF_no {l : List ByteArray} {s : ByteArray} (g : ∀ j, j < l.length → ((l.getD j ⟨#[]⟩).toList == s.toList) = false) : placeF l s = -1 := by
  unfold placeF
  rw [List.find?_eq_none.2 (fun x hx => by rw [g x (by simpa using hx)]; simp)]
def opNames : List ByteArray := (opRows.drop 1).map (·.1)
theorem opNames_at {i : Nat} (h : i < 26) : opNames.getD i ⟨#[]⟩ = opNm (i + 1) := by
  have hl : i + 1 < opRows.length := by show i + 1 < 27; omega
  have e : (opRows.drop 1)[i]? = some opRows[i + 1] := by rw [List.getElem?_drop, show 1 + i = i + 1 by omega, List.getElem?_eq_getElem hl]
  unfold opNames opNm
  simp only [List.getD, List.getElem?_map, e, List.getElem?_eq_getElem hl, Option.map_some, Option.getD_some]
theorem placeF_names (s : ByteArray) : placeF opNames s + 1 = opOfF s := by
  have hL : opNames.length = 26 := rfl
  by_cases h : ∃ k, (1 ≤ k ∧ k ≤ 26) ∧ ((opNm k).toList == s.toList) = true
  · obtain ⟨k, ⟨h1, h2⟩, hk, hm⟩ : ∃ k, (1 ≤ k ∧ k ≤ 26) ∧ ((opNm k).toList == s.toList) = true ∧ ∀ j, 1 ≤ j → j < k → ((opNm j).toList == s.toList) = false := by
      have hex : ∃ n, ∃ k, k ≤ n ∧ (1 ≤ k ∧ k ≤ 26) ∧ ((opNm k).toList == s.toList) = true := by
        obtain ⟨k, a, b⟩ := h
        exact ⟨k, k, Nat.le_refl _, a, b⟩
      obtain ⟨n, hn⟩ := hex
      induction n with
      | zero =>
        obtain ⟨k, a, b, _⟩ := hn
        omega
      | succ n ih =>
        by_cases hs : ∃ k, k ≤ n ∧ (1 ≤ k ∧ k ≤ 26) ∧ ((opNm k).toList == s.toList) = true
        · exact ih hs
        · obtain ⟨k, a, b, c⟩ := hn
          refine ⟨k, b, c, fun j h1 hj => ?_⟩
          cases e : ((opNm j).toList == s.toList)
          · rfl
          · exact absurd ⟨j, by omega, ⟨h1, by omega⟩, e⟩ hs
    rw [opOfF_yes h1 h2 hk hm]
    have := placeF_yes (l := opNames) (s := s) (k := k - 1) (by omega) (by rw [opNames_at (by omega), show k - 1 + 1 = k by omega]; exact hk) (fun j hj => by rw [opNames_at (by omega)]; exact hm (j + 1) (by omega) (by omega))
    rw [this]
    omega
  · have hno : ∀ j, 1 ≤ j → j ≤ 26 → ((opNm j).toList == s.toList) = false := fun j h1 h2 => by
      cases e : ((opNm j).toList == s.toList)
      · rfl
      · exact absurd ⟨j, ⟨h1, h2⟩, e⟩ h
    rw [opOfF_no hno, placeF_no (fun j hj => by rw [opNames_at (by omega)]; exact hno (j + 1) (by omega) (by omega))]
    rfl
end Go.Proofs.YtppgknjpbfopjaaGreatDoor
