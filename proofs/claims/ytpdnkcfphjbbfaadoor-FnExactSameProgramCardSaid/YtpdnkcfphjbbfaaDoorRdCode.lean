/- ReadCode of impl and of spec, and the laws on it. -/
import Derived.Test.YtpdnkcfphjbbfaaDoorInsRow
import Derived.Test.YtpdnkcfphjbbfaaDoorTake
import Derived.Test.YtpdnkcfphjbbfaaDoorCodeI
import Derived.Deep.DeepMust
import Derived.PlainAid
import Derived.Outline
namespace Go.Proofs.YtpdnkcfphjbbfaaDoor
open Go.ChangeShapes Go.WideShapes Go.ChangeAt Go.RowKit Go.PlainAid
/-- What stands at a place: the instruction, its size, the code. -/
def takeX (s : ByteArray) (p : Nat) : (Int × Int) × Nat × Int :=
  if opB (bt s p) = false then ((0, 0), 0, 11)
  else if opHas (bt s p).toNat = false then ((bt s p, 0), 1, 0)
  else if s.size < p + 5 then ((0, 0), 0, 16)
  else if okB (bt s p) (takeF s (p + 1) 4) = false then ((0, 0), 0, 4)
  else ((bt s p, takeF s (p + 1) 4), 5, 0)
theorem takeX_op {s : ByteArray} {p : Nat} (h : opB (bt s p) = false) : takeX s p = ((0, 0), 0, 11) := if_pos h
theorem takeX_bare {s : ByteArray} {p : Nat} (h : opB (bt s p) = true) (g : opHas (bt s p).toNat = false) : takeX s p = ((bt s p, 0), 1, 0) := by unfold takeX; rw [if_neg (by simp [h]), if_pos g]
theorem takeX_end {s : ByteArray} {p : Nat} (h : opB (bt s p) = true) (g : opHas (bt s p).toNat = true) (k : s.size < p + 5) : takeX s p = ((0, 0), 0, 16) := by unfold takeX; rw [if_neg (by simp [h]), if_neg (by simp [g]), if_pos k]
theorem takeX_rng {s : ByteArray} {p : Nat} (h : opB (bt s p) = true) (g : opHas (bt s p).toNat = true) (k : ¬ s.size < p + 5) (j : okB (bt s p) (takeF s (p + 1) 4) = false) : takeX s p = ((0, 0), 0, 4) := by unfold takeX; rw [if_neg (by simp [h]), if_neg (by simp [g]), if_neg k, if_pos j]
theorem takeX_ok {s : ByteArray} {p : Nat} (h : opB (bt s p) = true) (g : opHas (bt s p).toNat = true) (k : ¬ s.size < p + 5) (j : okB (bt s p) (takeF s (p + 1) 4) = true) : takeX s p = ((bt s p, takeF s (p + 1) 4), 5, 0) := by unfold takeX; rw [if_neg (by simp [h]), if_neg (by simp [g]), if_neg k, if_neg (by simp [j])]
theorem takeX_size (s : ByteArray) (p : Nat) (h : (takeX s p).2.2 = 0) : 1 ≤ (takeX s p).2.1 ∧ (takeX s p).2.1 ≤ 5 := by
  unfold takeX at *
  repeat' split at h
  all_goals first | (simp at h; done) | (simp only [*, if_true, if_false]; simp) | simp_all
/-- The rest of the text, from a place on, behind what has been read. -/
def goR (s : ByteArray) : Nat → Nat → List (Int × Int) → List (Int × Int) × Int
  | 0, _, zs => (zs, 0)
  | f + 1, p, zs => if p < s.size then (if (takeX s p).2.2 ≠ 0 then ([], (takeX s p).2.2) else if zs.length = 40 then ([], 6) else goR s f (p + (takeX s p).2.1) (zs ++ [(takeX s p).1])) else (zs, 0)
def readF (s : ByteArray) : List (Int × Int) × Int := if 65536 < s.size then ([], 2) else goR s s.size 0 []
theorem readF_long {s : ByteArray} (h : 65536 < s.size) : readF s = ([], 2) := if_pos h
theorem goR_end {s : ByteArray} {f p : Nat} {zs : List (Int × Int)} (h : ¬ p < s.size) : goR s f p zs = (zs, 0) := by
  cases f with
  | zero => rfl
  | succ f => rw [goR, if_neg h]
def AtR (s : ByteArray) (p : Nat) (zs : List (Int × Int)) : Prop := ∃ f, s.size ≤ p + f ∧ readF s = goR s f p zs
theorem atR_zero {s : ByteArray} (h : ¬ 65536 < s.size) : AtR s 0 [] := ⟨s.size, by omega, if_neg h⟩
theorem AtR.fin {s : ByteArray} {p : Nat} {zs : List (Int × Int)} (h : AtR s p zs) (g : ¬ p < s.size) : readF s = (zs, 0) := by
  obtain ⟨f, _, e⟩ := h
  rw [e, goR_end g]
theorem AtR.err {s : ByteArray} {p : Nat} {zs : List (Int × Int)} (h : AtR s p zs) (g : p < s.size) {x : Int × Int} {m : Nat} {c : Int} (hx : takeX s p = (x, m, c)) (hc : c ≠ 0) : readF s = ([], c) := by
  obtain ⟨f, hf, e⟩ := h
  cases f with
  | zero => omega
  | succ f => rw [e, goR, if_pos g, hx, if_pos hc]
theorem AtR.many {s : ByteArray} {p : Nat} {zs : List (Int × Int)} (h : AtR s p zs) (g : p < s.size) {x : Int × Int} {m : Nat} (hx : takeX s p = (x, m, 0)) (hz : zs.length = 40) : readF s = ([], 6) := by
  obtain ⟨f, hf, e⟩ := h
  cases f with
  | zero => omega
  | succ f => rw [e, goR, if_pos g, hx, if_neg (by simp), if_pos hz]
theorem AtR.step {s : ByteArray} {p : Nat} {zs : List (Int × Int)} (h : AtR s p zs) (g : p < s.size) {x : Int × Int} {m : Nat} (hx : takeX s p = (x, m, 0)) (hz : zs.length ≠ 40) : AtR s (p + m) (zs ++ [x]) := by
  obtain ⟨f, hf, e⟩ := h
  have hs := takeX_size s p (by rw [hx])
  rw [hx] at hs
  cases f with
  | zero => omega
  | succ f =>
    refine ⟨f, by simp at hs; omega, ?_⟩
    rw [e, goR, if_pos g, hx, if_neg (by simp), if_neg hz]
theorem keep_free {w w1 : World} {x y : Value} {t : TypeId} (hb : Below (w.alloc (.cells #[x, y] t)).heap.size (w.alloc (.cells #[x, y] t)) w1) : w1.frozen? ⟨w.heap.size, 0, none⟩ = false ∧ w1.frozen? ⟨w.heap.size, 1, none⟩ = false := by
  have hk : w1.heap[w.heap.size]? = some (.cells #[x, y] t (0, 0)) := (hb.block w.heap.size (by simp)).trans (heap_alloc_new w _)
  exact ⟨frozen_of_row _ _ 0 _ _ hk, frozen_of_row _ _ 1 _ _ hk⟩
theorem cell_two_nw (w : World) (x y : Value) (t : TypeId) : ∀ (j : Nat) u, [x, y][j]? = some u → (w.alloc (.cells #[x, y] t)).cell? ((⟨w.heap.size, 0, none⟩ : Addr).add j) = some u := by
  intro j u hj
  match j, hj with
  | 0, hj => simp at hj; subst hj; exact cell_of_row _ _ 0 _ _ _ (heap_alloc_new w _)
  | 1, hj => simp at hj; subst hj; exact cell_of_row _ _ 1 _ _ _ (heap_alloc_new w _)
  | j + 2, hj => simp at hj
theorem own_slice {w : World} {B size n : Nat} {e : TypeId} {v : Value} {xs : List Value} (h : w.ownsRow B e size v n xs) : ∃ a c, v = .slice a n c := by
  rcases own_form h with ⟨rfl, rfl⟩ | ⟨g, c, rfl⟩
  · exact ⟨_, _, rfl⟩
  · exact ⟨_, _, rfl⟩
theorem ret_taken {a b c d e f g h : Int} (h1 : a = b) (h2 : c = d) (h3 : e = f) (h4 : g = h) : Ending.returned (.tuple #[.agg #[.int .i64 a, .int .i64 c], .int .i64 e, .int .i64 g]) = .returned (.tuple #[.agg #[.int .i64 b, .int .i64 d], .int .i64 f, .int .i64 h]) := by rw [h1, h2, h3, h4]
theorem bt_op (s : ByteArray) (p : Nat) (h : opB (bt s p) = true) : ∃ k : Nat, bt s p = (k : Int) ∧ 1 ≤ k ∧ k ≤ 26 := opB_nat h
/-- What both readers hand back: a row of the call's own, and the code. -/
def RdPost (W0 : World) (zs : List (Int × Int)) (c : Int) (e : Ending) (w' : World) : Prop :=
  ∃ v, e = .returned (.tuple #[v, .int .i64 c]) ∧ w'.ownsRow W0.heap.size 87 2 v zs.length (flat insC zs) ∧ Below W0.heap.size W0 w'
theorem rd_err {W0 w : World} {s : ByteArray} {c d : Int} (h : readF s = ([], c)) (hd : d = c) (hb : Below W0.heap.size W0 w) : RdPost W0 (readF s).1 (readF s).2 (.returned (.tuple #[.slice none 0 0, .int .i64 d])) w := by
  rw [h, hd]
  exact ⟨_, rfl, World.ownsRow_nil _ _ _ _, hb⟩
theorem rd_err2 {W0 w : World} {s : ByteArray} {c d : Int} {o : Obj} {g : Nat} (h : readF s = ([], c)) (hd : d = c) (hg : g = w.heap.size) (ho : o = .cells #[] 87) (hb : Below W0.heap.size W0 w) : RdPost W0 (readF s).1 (readF s).2 (.returned (.tuple #[.slice (some ⟨g, 0, none⟩) 0 0, .int .i64 d])) (w.alloc o) := by
  rw [h, hd, ho, hg]
  exact ⟨_, rfl, World.ownsRow_lit w #[] 0 hb.size (Nat.zero_le _) rfl, hb.alloc hb.size _⟩
theorem rd_ok {W0 w : World} {s : ByteArray} {v : Value} {zs : List (Int × Int)} {n : Nat} (h : readF s = (zs, 0)) (hn : zs.length = n) (ho : w.ownsRow W0.heap.size 87 2 v n (flat insC zs)) (hb : Below W0.heap.size W0 w) : RdPost W0 (readF s).1 (readF s).2 (.returned (.tuple #[v, .int .i64 0])) w := by
  rw [h]
  exact ⟨_, rfl, hn ▸ ho, hb⟩
theorem ins_one (x y : Int) : flat insC [(x, y)] = [.int .i64 x, .int .i64 y] := rfl
theorem bare_ok {k : Nat} (h1 : 1 ≤ k) (h2 : k ≤ 26) (h : opHas k = false) : okB (k : Int) 0 = true := by
  rw [okB_in h1 h2]
  exact op_cases (p := fun k => 1 ≤ k → opHas k = false → (decide (opLo k ≤ 0) && decide (0 ≤ opHi k)) = true) (by decide) (by omega) h1 h
end Go.Proofs.YtpdnkcfphjbbfaaDoor
