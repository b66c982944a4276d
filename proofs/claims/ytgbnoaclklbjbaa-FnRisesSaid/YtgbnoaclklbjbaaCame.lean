/- What came in, as one word for whatever type: cells that read as a datum of the type; opened step by step. Over any program. -/
import Derived.WalkKit
import Derived.ProofKit
import Derived.OpenShut
import Derived.Carry
import Derived.Below
import Derived.ChangeOld
import Derived.Lib.SmallJoins
import Derived.Deep.Slices
import Derived.Deep.Fields
import Derived.ChangeSame
namespace Go.Proofs.Ytgbnoaclklbjbaa
open Go.ChangeShapes Go.WideShapes Go.ChangeAt Go.RowKit Go.Deep
/-- The cells read, in this world, as some datum of the type. -/
def Came (P : Program) (W : World) (t : TypeId) (cs : List Value) : Prop :=
  ∃ (H : Type) (enc : TypeId × Value → H) (fuel : Nat) (x : DataW H × List MemPlace), DataW.trod enc P W 0 (fun _ => true) true fuel t cs = some x
theorem came_of {P : Program} {W : World} {t : TypeId} {v : Value} {H : Type} {enc : TypeId × Value → H} {d : DataW H} {p : List MemPlace} (h : DataW.Trod enc P W 0 (fun _ => true) true t v d p) : Came P W t v.cells.toList := by
  obtain ⟨fuel, hf⟩ := h
  exact ⟨H, enc, fuel, _, hf⟩
theorem came_int {P : Program} {W : World} {t : TypeId} {k : IntKind} {cs : List Value} (ht : P.underlying t = some (.int k)) (h : Came P W t cs) : ∃ n, cs = [.int k n] ∧ (Lit.int k n).wf = true := by
  obtain ⟨H, enc, fuel, x, h⟩ := h
  obtain ⟨n, e, _, w⟩ := DataW.trod_int ht h
  exact ⟨n, e, w⟩
theorem came_bool {P : Program} {W : World} {t : TypeId} {cs : List Value} (ht : P.underlying t = some .bool) (h : Came P W t cs) : ∃ b, cs = [.bool b] := by
  obtain ⟨H, enc, fuel, x, h⟩ := h
  obtain ⟨b, e, _⟩ := DataW.trod_bool ht h
  exact ⟨b, e⟩
theorem came_string {P : Program} {W : World} {t : TypeId} {cs : List Value} (ht : P.underlying t = some .string) (h : Came P W t cs) : ∃ s : ByteArray, cs = [.string s] ∧ s.size ≤ maxLen := by
  obtain ⟨H, enc, fuel, x, h⟩ := h
  obtain ⟨s, e, _, w⟩ := DataW.trod_string ht h
  exact ⟨s, e, w⟩
/-- A struct: its cells, and each field's window. -/
theorem came_struct {P : Program} {W : World} {t : TypeId} {fs : Array Field} {cs : List Value} (ht : P.underlying t = some (.struct fs)) (h : Came P W t cs) :
    cs.length = P.cellsOf t ∧ ∀ (i : Nat) (f : Field), fs[i]? = some f → Came P W f.type ((cs.drop f.offset).take (P.cellsOf f.type)) := by
  obtain ⟨H, enc, fuel, x, h⟩ := h
  obtain ⟨xs, n, _, _, hl, hxl, hf⟩ := DataW.trod_struct ht h
  refine ⟨hl, fun i f hi => ?_⟩
  have hil : i < xs.length := by rw [hxl]; exact (Array.getElem?_eq_some_iff.1 hi).1
  exact ⟨H, enc, n, xs[i], (hf i f hi).trans (List.getElem?_eq_getElem hil)⟩
/-- A slice: nil, or a row of elements, each as it came. -/
theorem came_slice {P : Program} {W : World} {t e : TypeId} {cs : List Value} (ht : P.underlying t = some (.slice e)) (h : Came P W t cs) :
    cs = [.slice none 0 0] ∨ ∃ (a : Addr) (len cap : Nat), cs = [.slice (some a) len cap] ∧ len ≤ cap ∧ cap ≤ maxLen ∧
      ∀ i, i < cap → ∃ es : List Value, W.cells? 0 (a.add (i * P.cellsOf e)) (P.cellsOf e) = some es ∧ Came P W e es := by
  obtain ⟨H, enc, fuel, x, h⟩ := h
  rcases open_slice ht h with ⟨h0, _⟩ | ⟨a, len, cap, m, n, D, Pl, hcs, hb, hl, hm, hmm, hx, hi⟩
  · exact .inl h0
  · refine .inr ⟨a, len, cap, hcs, hl, hm, fun i hic => ?_⟩
    obtain ⟨es, hc, ht'⟩ := hi i (by rw [hmm]; simpa using hic)
    exact ⟨es, hc, H, enc, n, _, ht'⟩
theorem cells_at {W : World} {a : Addr} {k : Nat} {es : List Value} (h : W.cells? 0 a k = some es) : es.length = k ∧ ∀ j, j < k → W.cell? (a.add j) = es[j]? := by
  obtain ⟨_, hcl, hat⟩ := World.cells?_some h
  exact ⟨hcl, fun j hj => hat j hj⟩
theorem cells_lt {W : World} {a : Addr} {v : Value} (h : W.cell? a = some v) : a.block < W.heap.size := by
  rcases Nat.lt_or_ge a.block W.heap.size with h' | h'
  · exact h'
  · simp [World.cell?, Array.getElem?_eq_none h'] at h
theorem ad_block (x : Addr) (k : Nat) : (x.add k).block = x.block := by unfold Addr.add; split <;> rfl
/-- A slice of integers of one kind: cell for cell. -/
theorem came_ints {P : Program} {W : World} {t e : TypeId} {k : IntKind} {a : Option Addr} {n c : Nat} (ht : P.underlying t = some (.slice e)) (he : P.underlying e = some (.int k)) (hc : P.cellsOf e = 1) (h : Came P W t [.slice a n c]) :
    n ≤ maxLen ∧ (0 < n → ∃ x, a = some x ∧ x.block < W.heap.size ∧ ∀ i, i < n → ∃ z : Int, (Lit.int k z).wf = true ∧ W.cell? (x.add i) = some (.int k z)) := by
  rcases came_slice ht h with h0 | ⟨x, len, cap, hcs, hl, hm, hi⟩
  · simp only [List.cons.injEq, Value.slice.injEq, and_true] at h0
    exact ⟨by omega, fun hn => by omega⟩
  · simp only [List.cons.injEq, Value.slice.injEq, and_true] at hcs
    obtain ⟨rfl, rfl, rfl⟩ := hcs
    have each : ∀ i, i < n → ∃ z : Int, (Lit.int k z).wf = true ∧ W.cell? (x.add i) = some (.int k z) := fun i hin => by
      obtain ⟨es, g, ge⟩ := hi i (by omega)
      obtain ⟨z, rfl, wz⟩ := came_int he ge
      rw [hc, Nat.mul_one] at g
      exact ⟨z, wz, by have := (cells_at g).2 0 (by omega); rw [Go.Deep.add_add] at this; simpa using this⟩
    refine ⟨by omega, fun hn => ⟨x, rfl, ?_, each⟩⟩
    obtain ⟨z, _, hz⟩ := each 0 hn
    have := cells_lt hz
    rwa [ad_block] at this
end Go.Proofs.Ytgbnoaclklbjbaa
