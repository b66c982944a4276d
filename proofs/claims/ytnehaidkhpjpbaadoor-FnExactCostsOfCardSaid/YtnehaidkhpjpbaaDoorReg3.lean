/- Rows of regions: what add and else leave of them. -/
import Derived.Test.YtnehaidkhpjpbaaDoorReg2
import Derived.Test.YtnehaidkhpjpbaaDoorWalk8
namespace Go.Proofs.YtnehaidkhpjpbaaDoor
open Go.ChangeShapes Go.WideShapes Go.ChangeAt Go.RowKit
set_option linter.unusedVariables false
def smC (a : SM) : List Value := [.int .i64 a.t, .int .i64 a.n, .int .i64 a.h, .int .i64 a.l, .int .i64 a.i]
theorem smC_len (a : SM) : (smC a).length = 5 := rfl
/-- A row of regions. -/
abbrev RRow (B g n c : Nat) (os : List RG) (w : World) : Prop := w.ownsRow B 193 12 (.slice (some ⟨g, 0, none⟩) n c) n (flat rgC os)
theorem rr_len {w : World} {B g n c : Nat} {os : List RG} (h : RRow B g n c os w) : os.length = n := by
  have := h.1
  rw [flat_len rgC_len] at this
  omega
theorem rr_at {w : World} {B g n c : Nat} {b t : List RG} {r : RG} (h : RRow B g n c (b ++ r :: t) w) : RgAt w g (b.length * 12) r := by
  have hl := rr_len h
  simp at hl
  have hat : ∀ j, j < 12 → w.cell? ⟨g, b.length * 12 + j, none⟩ = (rgC r)[j]? := fun j hj => by
    rw [h.cellAt _ (by omega)]
    exact flat_at rgC_len (show (b ++ r :: t)[b.length]? = some r by simp) hj
  exact ⟨⟨hat 0 (by omega), hat 1 (by omega)⟩, ⟨hat 2 (by omega), hat 3 (by omega), hat 4 (by omega), hat 5 (by omega), hat 6 (by omega)⟩, ⟨hat 7 (by omega), hat 8 (by omega), hat 9 (by omega), hat 10 (by omega), hat 11 (by omega)⟩, fun k => h.frozenAt k⟩
theorem rr_own {w w1 : World} {B g n c : Nat} {b t : List RG} {r : RG} (h : RRow B g n c (b ++ r :: t) w) (hb : Below w.heap.size w w1) (S : SM) :
    RRow B g n c (b ++ (⟨r.x, S, r.oth⟩ : RG) :: t) (set5o w1 g (b.length * 12 + 2) S) ∧ w1.grownBy (set5o w1 g (b.length * 12 + 2) S) (some g) := by
  obtain ⟨h1, h2⟩ := own_storeAll (smC S) _ (b.length * 12 + 2) w1 (own_bl h hb)
  refine ⟨?_, h2⟩
  have e := over_mid (smC S) (flat rgC b ++ [.int .i64 r.x.1, .int .i64 r.x.2]) (smC r.own) (smC r.oth ++ flat rgC t) rfl
  rw [show (flat rgC b ++ [Value.int .i64 r.x.1, .int .i64 r.x.2]).length = b.length * 12 + 2 by rw [List.length_append, flat_len rgC_len]; rfl] at e
  have e1 : flat rgC (b ++ r :: t) = flat rgC b ++ [Value.int .i64 r.x.1, .int .i64 r.x.2] ++ smC r.own ++ (smC r.oth ++ flat rgC t) := by
    rw [flat_app, flat_cons]; simp [rgC, smC]
  have e2 : flat rgC (b ++ (⟨r.x, S, r.oth⟩ : RG) :: t) = flat rgC b ++ [Value.int .i64 r.x.1, .int .i64 r.x.2] ++ smC S ++ (smC r.oth ++ flat rgC t) := by
    rw [flat_app, flat_cons]; simp [rgC, smC]
  rw [e1, e, ← e2] at h1
  exact h1
theorem rr_oth {w w1 : World} {B g n c : Nat} {b t : List RG} {r : RG} (h : RRow B g n c (b ++ r :: t) w) (hb : Below w.heap.size w w1) (S : SM) :
    RRow B g n c (b ++ (⟨r.x, r.own, S⟩ : RG) :: t) (set5o w1 g (b.length * 12 + 7) S) ∧ w1.grownBy (set5o w1 g (b.length * 12 + 7) S) (some g) := by
  obtain ⟨h1, h2⟩ := own_storeAll (smC S) _ (b.length * 12 + 7) w1 (own_bl h hb)
  refine ⟨?_, h2⟩
  have e := over_mid (smC S) (flat rgC b ++ ([.int .i64 r.x.1, .int .i64 r.x.2] ++ smC r.own)) (smC r.oth) (flat rgC t) rfl
  rw [show (flat rgC b ++ ([Value.int .i64 r.x.1, .int .i64 r.x.2] ++ smC r.own)).length = b.length * 12 + 7 by rw [List.length_append, flat_len rgC_len]; rfl] at e
  have e1 : flat rgC (b ++ r :: t) = flat rgC b ++ ([Value.int .i64 r.x.1, .int .i64 r.x.2] ++ smC r.own) ++ smC r.oth ++ flat rgC t := by
    rw [flat_app, flat_cons]; simp [rgC, smC]
  have e2 : flat rgC (b ++ (⟨r.x, r.own, S⟩ : RG) :: t) = flat rgC b ++ ([Value.int .i64 r.x.1, .int .i64 r.x.2] ++ smC r.own) ++ smC S ++ flat rgC t := by
    rw [flat_app, flat_cons]; simp [rgC, smC]
  rw [e1, e, ← e2] at h1
  exact h1
theorem rr_lt {w : World} {B g n c : Nat} {os : List RG} (h : RRow B g n c os w) : B ≤ g ∧ g < w.heap.size := h.lt g rfl
/-- A region of a row takes one more summary. -/
theorem rr_add {w w' : World} {B g n c : Nat} {b t : List RG} {r : RG} {S : SM} {e : Ending} (h : RRow B g n c (b ++ r :: t) w) (hB : B ≤ w.heap.size) (hp : AddPost g (b.length * 12) S w e w') :
    e = .returned (.tuple #[]) ∧ RRow B g n c (b ++ (⟨r.x, S, r.oth⟩ : RG) :: t) w' ∧ Below B w w' := by
  obtain ⟨he, w1, hb, rfl⟩ := hp
  obtain ⟨h1, h2⟩ := rr_own h hb S
  exact ⟨he, h1, (hb.mono hB).grown h2 (Nat.le_trans hB hb.size) (fun k hk => by cases hk; exact (rr_lt h).1)⟩
theorem rr_addm {w w' : World} {B g n c m : Nat} {b : List RG} {r : RG} {S : SM} {e : Ending} (h : RRow B g n c (b ++ [r]) w) (hm : b.length = m) (hB : B ≤ w.heap.size) (hp : AddPost g (m * 12) S w e w') :
    e = .returned (.tuple #[]) ∧ RRow B g n c (b ++ [(⟨r.x, S, r.oth⟩ : RG)]) w' ∧ Below B w w' := by
  subst hm
  exact rr_add h hB hp
theorem rr_atm {w : World} {B g n c m : Nat} {b : List RG} {r : RG} (h : RRow B g n c (b ++ [r]) w) (hm : b.length = m) : RgAt w g (m * 12) r := by
  subst hm
  exact rr_at h
theorem bl_set5o {w : World} {c : Nat} {O : Obj} (h : w.heap[c]? = some O) (b o : Nat) (hc : c ≠ b) (x : SM) : (set5o w b o x).heap[c]? = some O := by
  unfold set5o
  rw [heap_setCell_other _ _ _ _ hc, heap_setCell_other _ _ _ _ hc, heap_setCell_other _ _ _ _ hc, heap_setCell_other _ _ _ _ hc, heap_setCell_other _ _ _ _ hc]
  exact h
theorem add_oth {w w' : World} {g o k : Nat} {S : SM} {e : Ending} {O : Obj} (hp : AddPost g o S w e w') (h : w.heap[k]? = some O) (hk : k ≠ g) : w'.heap[k]? = some O := by
  obtain ⟨_, w1, hb, rfl⟩ := hp
  exact bl_set5o (blk_belR h hb) g _ hk S
theorem rr_addp {w w' : World} {B g n c m : Nat} {b : List RG} {r top : RG} {S : SM} {e : Ending} (h : RRow B g n c (b ++ [r] ++ [top]) w) (hm : b.length = m) (hB : B ≤ w.heap.size) (hp : AddPost g (m * 12) S w e w') :
    e = .returned (.tuple #[]) ∧ RRow B g n c (b ++ [(⟨r.x, S, r.oth⟩ : RG)] ++ [top]) w' ∧ Below B w w' := by
  subst hm
  rw [List.append_assoc, List.singleton_append] at h ⊢
  exact rr_add h hB hp
theorem rr_atp {w : World} {B g n c m : Nat} {b : List RG} {r top : RG} (h : RRow B g n c (b ++ [r] ++ [top]) w) (hm : b.length = m) : RgAt w g (m * 12) r := by
  subst hm
  rw [List.append_assoc, List.singleton_append] at h
  exact rr_at h
theorem rr_else {w w1 : World} {B g n c m : Nat} {b : List RG} {r : RG} (h : RRow B g n c (b ++ [r]) w) (hm : b.length = m) (hB : B ≤ w.heap.size) (hb : Below w.heap.size w w1) (S T : SM) :
    RRow B g n c (b ++ [(⟨r.x, S, T⟩ : RG)]) (set5o (set5o w1 g (m * 12 + 2) S) g (m * 12 + 7) T) ∧ Below B w (set5o (set5o w1 g (m * 12 + 2) S) g (m * 12 + 7) T) := by
  subst hm
  obtain ⟨h1, g1⟩ := rr_own h hb S
  obtain ⟨h2, g2⟩ := rr_oth h1 (Below.refl _ _) T
  have hg := (rr_lt h).1
  have k1 := (hb.mono hB).grown g1 (Nat.le_trans hB hb.size) (fun k hk => by cases hk; exact hg)
  exact ⟨h2, k1.grown g2 (Nat.le_trans (Nat.le_trans hB hb.size) g1.size) (fun k hk => by cases hk; exact hg)⟩
/-- The last region goes. -/
theorem rr_less {w : World} {B g m c : Nat} {b : List RG} {r : RG} (h : RRow B g (m + 1) c (b ++ [r]) w) (hm : b.length = m) : RRow B g m c b w := by
  unfold RRow at h
  rw [flat_snoc] at h
  exact own_less h (by rw [flat_len rgC_len, hm])
/-- The known summaries, below the regions. -/
def Kn (B : Nat) (ka : Option Addr) (known : List SM) (w : World) : Prop := known = [] ∨ ∃ b o : Nat, ka = some ⟨b, o, none⟩ ∧ b < B ∧ ∀ (j : Nat) v, (flat smC known)[j]? = some v → w.cell? ⟨b, o + j, none⟩ = some v
theorem Kn.bel {B : Nat} {ka : Option Addr} {known : List SM} {w w' : World} (h : Kn B ka known w) (hb : Below B w w') : Kn B ka known w' := by
  rcases h with h | ⟨b, o, e, hl, h⟩
  · exact .inl h
  · exact .inr ⟨b, o, e, hl, fun j v hj => (hb.cell (p := ⟨b, o + j, none⟩) hl).trans (h j v hj)⟩
theorem Kn.at {B : Nat} {ka : Option Addr} {known : List SM} {w : World} (h : Kn B ka known w) {k : Nat} (hk : k < known.length) : ∃ b o : Nat, ka = some ⟨b, o, none⟩ ∧ b < B ∧
    (w.cell? ⟨b, o + k * 5, none⟩ = some (.int .i64 (known.getD k (one 0 false)).t) ∧ w.cell? ⟨b, o + k * 5 + 1, none⟩ = some (.int .i64 (known.getD k (one 0 false)).n) ∧ w.cell? ⟨b, o + k * 5 + 2, none⟩ = some (.int .i64 (known.getD k (one 0 false)).h) ∧ w.cell? ⟨b, o + k * 5 + 3, none⟩ = some (.int .i64 (known.getD k (one 0 false)).l) ∧ w.cell? ⟨b, o + k * 5 + 4, none⟩ = some (.int .i64 (known.getD k (one 0 false)).i)) := by
  rcases h with h | ⟨b, o, e, hl, h⟩
  · rw [h] at hk; simp at hk
  · have hx : known[k]? = some (known.getD k (one 0 false)) := by simp [List.getD, hk]
    have hat : ∀ j, j < 5 → ∀ v, (smC (known.getD k (one 0 false)))[j]? = some v → w.cell? ⟨b, o + k * 5 + j, none⟩ = some v := fun j hj v hv => by
      have := h (k * 5 + j) v ((flat_at smC_len hx hj).trans hv)
      rwa [show o + (k * 5 + j) = o + k * 5 + j by omega] at this
    exact ⟨b, o, e, hl, hat 0 (by omega) _ rfl, hat 1 (by omega) _ rfl, hat 2 (by omega) _ rfl, hat 3 (by omega) _ rfl, hat 4 (by omega) _ rfl⟩
theorem optab_bel {B : Nat} {w w' : World} (h : OpTab w) (g : Below B w w') (hB : 0 < B) : OpTab w' := fun k hk => by
  obtain ⟨h1, h2, h3, h4⟩ := h k hk
  exact ⟨(g.cell (p := ⟨0, k * 4, none⟩) hB).trans h1, (g.cell (p := ⟨0, k * 4 + 1, none⟩) hB).trans h2, (g.cell (p := ⟨0, k * 4 + 2, none⟩) hB).trans h3, (g.cell (p := ⟨0, k * 4 + 3, none⟩) hB).trans h4⟩
theorem tick_op {k : Nat} (h1 : 1 ≤ k) (h2 : k ≤ 26) : opTk k = tick (k : Int) := op_cases (p := fun k => 1 ≤ k → opTk k = tick (k : Int)) (by decide) (by omega) h1
end Go.Proofs.YtnehaidkhpjpbaaDoor
