/- Lists of booleans and of function blocks: the copies, comparisons, marks of the laws. -/
import Derived.Test.YtgbnoaclklbjbaaInts
import Derived.Test.YtgbnoaclklbjbaaHeld
namespace Go.Proofs.Ytgbnoaclklbjbaa
open Go.ChangeShapes Go.WideShapes Go.ChangeAt Go.RowKit
set_option linter.unusedVariables false
def bI (z : Bool) : List Value := [.bool z]
theorem bI_len (z : Bool) : (bI z).length = 1 := rfl
theorem bool_at {w : World} {b o : Nat} {bs : List Bool} (h : ∀ (j : Nat) v, (flat bI bs)[j]? = some v → w.cell? ⟨b, o + j, none⟩ = some v) {i : Nat} (hi : i < bs.length) : w.cell? ⟨b, o + i, none⟩ = some (.bool (bs.getD i false)) := by
  have hx : bs[i]? = some (bs.getD i false) := by simp [List.getD, hi]
  have h0 := flat_at bI_len hx (j := 0) (by omega)
  have := h (i * 1 + 0) _ h0
  simpa using this
theorem cBool1 : Try.prog.cellsOf 4 = 1 := by kernel_rfl
theorem came_bs {W : World} {a : Option Addr} {n c : Nat} (h : Came Try.prog W 45 [.slice a n c]) : n ≤ maxLen ∧ n ≤ c ∧ ∃ bs : List Bool, bs.length = n ∧ Lies W a (flat bI bs) :=
  lies_came bI bI_len (by decide) Try.underlying45 cBool1 (fun es g => by
    obtain ⟨z, e⟩ := came_bool Try.underlying4 g
    exact ⟨z, e⟩) h
theorem bC_len (ks : List Bool) : (flat bI ks).length = ks.length := by rw [flat_len bI_len, Nat.mul_one]
theorem toBoolS_any (ks : List Bool) (a : Option Addr) (c : Nat) (hn : ks.length ≤ 1048576) (w : World) (hz : Lies w a (flat bI ks)) :
    Calls Try.prog 29 #[.slice a ks.length c] w fun e w' => e = .returned (.slice (some ⟨w.heap.size, 0, none⟩) ks.length ks.length) ∧ w'.ownsRow w.heap.size 4 1 (.slice (some ⟨w.heap.size, 0, none⟩) ks.length ks.length) ks.length (flat bI ks) ∧ Below w.heap.size w w' := by
  obtain ⟨i0, hi, hz0, hz1, hz2⟩ := info_parts (show (Try.prog.info? 4).map (fun i => (i.zero, i.size, i.bytes)) = some (some (.bool false), 1, 1) by kernel_rfl)
  have HI := Lib.hid (And.intro hi (And.intro hz0 (And.intro hz1 hz2)))
  clear hi hz0 hz1 hz2
  have Hz := Lib.hid hz
  clear hz
  generalize hL : ks.length = n at *
  have HL := Lib.hid hL
  clear hL
  go_enter Try.func29, Try.ntmps29
  go_wp2_with (at_make; go_must (refine wpList_make_full _ rfl _ _ _ rfl w.heap.size 4 i0 _ 1 Try.underlying45 HI.out.1 HI.out.2.1 HI.out.2.2.1 .i64 .i64 _ _ n rfl rfl rfl rfl (by rw [HI.out.2.2.2]; omega) (by unfold maxLen; omega) (Nat.le_refl _) ?_); intro w1 hown1 hgrow1)
  have Ho1 := Lib.hid (Filled.zero (enc := bI) (zs := ks) hown1)
  have Hb1 := Lib.hid ((Below.refl w.heap.size w).grown hgrow1 (Nat.le_refl _) (by intro k hk; cases hk))
  clear hown1 hgrow1
  go_loopw [4] (fun i wr => ∃ k : Nat, k ≤ n ∧ i = .int .i64 k ∧ Hid (Filled bI 1 wr w.heap.size 4 w.heap.size n n ks k) ∧ Hid (Below w.heap.size w wr)) (fun i _ => n - (intOf i).toNat)
  case atStart => exact ⟨0, Nat.zero_le _, rfl, Ho1, Hb1⟩
  case round =>
    obtain ⟨k, hk, rfl, ho, hb⟩ := hrel
    by_cases hlt : k < n
    · obtain ⟨b, o, rfl, hbl, hcs⟩ := Hz.out.open (by rw [bC_len, HL.out]; omega)
      have c0 := bool_at hcs (i := k) (by rw [HL.out]; exact hlt)
      have d0 := (hb.out.cell (p := ⟨b, o + k, none⟩) hbl).trans c0
      have HX : Hid (ks[k]? = some (ks.getD k false)) := Lib.hid (by simp [List.getD, HL.out, hlt])
      clear hcs c0
      generalize ks.getD k false = x at *
      obtain ⟨v0, e0⟩ := ho.out.there hlt 0 (by omega)
      have f0 := ho.out.free (k * 1)
      obtain ⟨hs, hg⟩ := ho.out.store bI_len HL.out HX.out
      rw [Nat.mul_one] at hs hg f0
      rw [Nat.mul_one, Nat.add_zero] at e0
      have Hs : Hid (Filled bI 1 (wr.setCell ⟨w.heap.size, k, none⟩ (.bool x)) w.heap.size 4 w.heap.size n n ks (k + 1)) := Lib.hid hs
      have Hg : Hid (Below w.heap.size w (wr.setCell ⟨w.heap.size, k, none⟩ (.bool x))) := Lib.hid (hb.out.setCell (p := ⟨w.heap.size, k, none⟩) (Nat.le_refl _) _)
      clear hs hg
      go_wp2
      go_roundw
      case rel => exact ⟨k + 1, by omega, by go_num, Hs, Hg⟩
      case measure => simp [intOf]; omega
    · obtain rfl : k = n := by omega
      go_wp2
      go_ret
      exact ⟨rfl, ho.out.full HL.out, hb.out⟩
theorem eqBoolS_same (ks : List Bool) (a b : Option Addr) (c d : Nat) (hn : ks.length ≤ 1048576) (w : World) (hz : Lies w a (flat bI ks)) (hy : Lies w b (flat bI ks)) :
    Calls Try.prog 32 #[.slice a ks.length c, .slice b ks.length d] w fun e w' => e = .returned (.bool true) ∧ Below w.heap.size w w' := by
  have Hz := Lib.hid hz
  have Hy := Lib.hid hy
  clear hz hy
  generalize hL : ks.length = n at *
  have HL := Lib.hid hL
  clear hL
  have hs : ((n : Int) != n) = false := by simp
  go_enter Try.func32, Try.ntmps32
  go_wp2
  go_loopw [5] (fun i wr => ∃ k : Nat, k ≤ n ∧ i = .int .i64 k ∧ Hid (Below w.heap.size w wr)) (fun i _ => n - (intOf i).toNat)
  case atStart => exact ⟨0, Nat.zero_le _, rfl, Lib.hid (Below.refl _ _)⟩
  case round =>
    obtain ⟨k, hk, rfl, hb⟩ := hrel
    by_cases hlt : k < n
    · obtain ⟨b1, o1, rfl, hb1, hc1⟩ := Hz.out.open (by rw [bC_len, HL.out]; omega)
      obtain ⟨b2, o2, rfl, hb2, hc2⟩ := Hy.out.open (by rw [bC_len, HL.out]; omega)
      have d0 := (hb.out.cell (p := ⟨b1, o1 + k, none⟩) hb1).trans (bool_at hc1 (i := k) (by rw [HL.out]; exact hlt))
      have d1 := (hb.out.cell (p := ⟨b2, o2 + k, none⟩) hb2).trans (bool_at hc2 (i := k) (by rw [HL.out]; exact hlt))
      clear hc1 hc2
      generalize ks.getD k false = x at *
      have hxx : (x != x) = false := by simp
      go_wp2_with fail
      go_quiet (fail)
      go_wp2
      go_roundw
      case rel => exact ⟨k + 1, by omega, by go_num, Lib.hid (bel_dn hb.out _)⟩
      case measure => simp [intOf]; omega
    · obtain rfl : k = n := by omega
      go_wp2
      go_ret
      exact ⟨rfl, hb.out⟩
/-- Mark number k of a boolean. -/
def mkB (m : Int) (k : Nat) : Bool := (m + k) % 3 == 0
def marksB (m : Int) : Nat → List Bool
  | 0 => []
  | k + 1 => marksB m k ++ [mkB m k]
theorem marksB_len (m : Int) (k : Nat) : (marksB m k).length = k := by
  induction k with
  | zero => rfl
  | succ k ih => simp [marksB, ih]
theorem marksB_at (m : Int) : ∀ (n k : Nat), k < n → (marksB m n)[k]? = some (mkB m k)
  | n + 1, k, h => by
    by_cases e : k < n
    · rw [marksB, List.getElem?_append_left (by rw [marksB_len]; exact e)]
      exact marksB_at m n k e
    · obtain rfl : k = n := by omega
      rw [marksB, List.getElem?_append_right (by rw [marksB_len]; exact Nat.le_refl _), marksB_len]
      simp
theorem markBoolS_any (B g n cap : Nat) (xs : List Value) (m : Int) (hm : 0 ≤ m ∧ m ≤ 1000000000) (hn : n ≤ 1048576) (w : World) (ho : w.ownsRow B 4 1 (.slice (some ⟨g, 0, none⟩) n cap) n xs) :
    Calls Try.prog 33 #[.slice (some ⟨g, 0, none⟩) n cap, .int .i64 m] w fun e w' => e = .returned (.int .i64 (m + n)) ∧ w'.ownsRow B 4 1 (.slice (some ⟨g, 0, none⟩) n cap) n (flat bI (marksB m n)) ∧ w.grownBy w' (some g) := by
  have Ho := Lib.hid (Filled.zero (enc := bI) (zs := marksB m n) ho)
  clear ho
  go_enter Try.func33, Try.ntmps33
  go_wp2
  go_loopw [1, 5] (fun q i wr => ∃ k : Nat, k ≤ n ∧ i = .int .i64 k ∧ q = .int .i64 (m + k) ∧ Hid (Filled bI 1 wr B 4 g n cap (marksB m n) k) ∧ Hid (w.grownBy wr (some g))) (fun _ i _ => n - (intOf i).toNat)
  case atStart => exact ⟨0, Nat.zero_le _, rfl, by go_num, Ho, Lib.hid (World.grownBy.refl _ _)⟩
  case round =>
    obtain ⟨k, hk, rfl, rfl, ho, hg⟩ := hrel
    by_cases hlt : k < n
    · obtain ⟨v0, e0⟩ := ho.out.there hlt 0 (by omega)
      have f0 := ho.out.free (k * 1)
      obtain ⟨hs, hg2⟩ := ho.out.store bI_len (marksB_len m n) (marksB_at m n k hlt)
      rw [Nat.mul_one] at hs hg2 f0
      rw [Nat.mul_one, Nat.add_zero] at e0
      have Hs : Hid (Filled bI 1 (wr.setCell ⟨g, k, none⟩ (.bool ((m + k) % 3 == 0))) B 4 g n cap (marksB m n) (k + 1)) := Lib.hid hs
      have Hg : Hid (w.grownBy (wr.setCell ⟨g, k, none⟩ (.bool ((m + k) % 3 == 0))) (some g)) := Lib.hid (row_tr hg.out hg2)
      clear hs hg2
      go_wp2
      go_roundw
      case rel => exact ⟨k + 1, by omega, by go_num, by go_num, Hs, Hg⟩
      case measure => simp [intOf]; omega
    · obtain rfl : k = n := by omega
      go_wp2
      go_ret
      exact ⟨rfl, ho.out.full (marksB_len m k), hg.out⟩
def MarkBPost (B n : Nat) (v : Value) (m : Int) (w : World) (e : Ending) (w' : World) : Prop :=
  e = .returned (.int .i64 (m + n)) ∧ w'.ownsRow B 4 1 v n (flat bI (marksB m n)) ∧ w.grownBy w' v.ownBlock
theorem markBoolS_own (B n c : Nat) (a : Option Addr) (xs : List Value) (m : Int) (hm : 0 ≤ m ∧ m ≤ 1000000000) (hn : n ≤ 1048576) (w : World) (ho : w.ownsRow B 4 1 (.slice a n c) n xs) :
    Calls Try.prog 33 #[.slice a n c, .int .i64 m] w (MarkBPost B n (.slice a n c) m w) := by
  rcases own_form ho with ⟨hv, rfl⟩ | ⟨g, c', hv⟩
  · simp only [Value.slice.injEq] at hv
    obtain ⟨rfl, _, rfl⟩ := hv
    clear ho
    go_enter Try.func33, Try.ntmps33
    go_wp2
    go_loop [1, 5] (fun q i => q = .int .i64 m ∧ i = .int .i64 0) (fun _ i => 0)
    case atStart => exact ⟨rfl, rfl⟩
    case round =>
      obtain ⟨rfl, rfl⟩ := hrel
      go_wp2
      go_ret
      exact ⟨by simp, World.ownsRow_nil _ _ _ _, World.grownBy.refl _ _⟩
  · simp only [Value.slice.injEq] at hv
    obtain ⟨rfl, _, rfl⟩ := hv
    exact (markBoolS_any B g n c xs m hm hn w ho).mono fun _ _ h => h
/-- A function block: its kind, its boolean, its start, its count. -/
abbrev FT := Int × Bool × Int × Int
def fC (z : FT) : List Value := [.int .i64 z.1, .bool z.2.1, .int .i64 z.2.2.1, .int .i64 z.2.2.2]
theorem fC_len (z : FT) : (fC z).length = 4 := rfl
abbrev fV (z : FT) : Value := .agg #[.int .i64 z.1, .bool z.2.1, .int .i64 z.2.2.1, .int .i64 z.2.2.2]
def f0 : FT := (0, false, 0, 0)
/-- The four cells of a block in a row. -/
abbrev C4 (b o : Nat) (u : FT) (X : World) : Prop := X.cell? ⟨b, o, none⟩ = some (.int .i64 u.1) ∧ X.cell? ⟨b, o + 1, none⟩ = some (.bool u.2.1) ∧ X.cell? ⟨b, o + 2, none⟩ = some (.int .i64 u.2.2.1) ∧ X.cell? ⟨b, o + 3, none⟩ = some (.int .i64 u.2.2.2)
theorem C4.bel {b o B : Nat} {u : FT} {X Y : World} (h : C4 b o u X) (hb : Below B X Y) (hl : b < B) : C4 b o u Y :=
  ⟨(hb.cell (p := ⟨b, o, none⟩) hl).trans h.1, (hb.cell (p := ⟨b, o + 1, none⟩) hl).trans h.2.1, (hb.cell (p := ⟨b, o + 2, none⟩) hl).trans h.2.2.1, (hb.cell (p := ⟨b, o + 3, none⟩) hl).trans h.2.2.2⟩
theorem ft_at {w : World} {b o : Nat} {fs : List FT} (h : ∀ (j : Nat) v, (flat fC fs)[j]? = some v → w.cell? ⟨b, o + j, none⟩ = some v) {i : Nat} (hi : i < fs.length) : C4 b (o + i * 4) (fs.getD i f0) w := by
  have hx : fs[i]? = some (fs.getD i f0) := by simp [List.getD, hi]
  exact ⟨h (i * 4) _ (flat_at fC_len hx (j := 0) (by omega)), h (i * 4 + 1) _ (flat_at fC_len hx (j := 1) (by omega)), h (i * 4 + 2) _ (flat_at fC_len hx (j := 2) (by omega)), h (i * 4 + 3) _ (flat_at fC_len hx (j := 3) (by omega))⟩
/-- What mark leaves in block number k. -/
def mkF (m : Int) (k : Nat) : FT := (m + 4 * k, (m + 4 * k + 1) % 3 == 0, m + 4 * k + 1 + 1, m + 4 * k + 1 + 1 + 1)
def marksF (m : Int) : Nat → List FT
  | 0 => []
  | k + 1 => marksF m k ++ [mkF m k]
theorem marksF_len (m : Int) (k : Nat) : (marksF m k).length = k := by
  induction k with
  | zero => rfl
  | succ k ih => simp [marksF, ih]
theorem marksF_at (m : Int) : ∀ (n k : Nat), k < n → (marksF m n)[k]? = some (mkF m k)
  | n + 1, k, h => by
    by_cases e : k < n
    · rw [marksF, List.getElem?_append_left (by rw [marksF_len]; exact e)]
      exact marksF_at m n k e
    · obtain rfl : k = n := by omega
      rw [marksF, List.getElem?_append_right (by rw [marksF_len]; exact Nat.le_refl _), marksF_len]
      simp
end Go.Proofs.Ytgbnoaclklbjbaa
