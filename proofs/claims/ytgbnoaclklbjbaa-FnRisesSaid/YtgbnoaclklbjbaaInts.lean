/- Lists of integers: the copies, comparisons, marks of the laws; small facts on rows. -/
import Derived.Test.YtgbnoaclklbjbaaRows
import Derived.Test.YtgbnoaclklbjbaaRow
import Derived.OwnWalk
import Derived.Lib.OwnKind
import Derived.Handy
import Derived.IntWalk
import Derived.WalkSmall
import Derived.Deep.QuietTactic
import Derived.BigQuiet
import Derived.Deep.RegionWith
import Derived.Deep.DeepMust
import Derived.Outline
namespace Go.Proofs.Ytgbnoaclklbjbaa
open Go.ChangeShapes Go.WideShapes Go.ChangeAt Go.RowKit
set_option linter.unusedVariables false
theorem bel_dn {B : Nat} {a w : World} (h : Below B a w) (q : Nat) : Below B a (w.drewN q) := ⟨h.os, h.tape, h.output, h.size, h.block⟩
theorem own_bl {w w' : World} {B size n : Nat} {e : TypeId} {v : Value} {xs : List Value} (h : w.ownsRow B e size v n xs) (hb : Below w.heap.size w w') : w'.ownsRow B e size v n xs :=
  h.kept (row := none) ⟨hb.os, hb.tape, hb.output, hb.size, fun k hk _ => hb.block k hk⟩ (by cases v.ownBlock <;> simp)
theorem own_form {w : World} {B size n : Nat} {e : TypeId} {v : Value} {xs : List Value} (h : w.ownsRow B e size v n xs) : v = .slice none 0 0 ∧ n = 0 ∨ ∃ g c, v = .slice (some ⟨g, 0, none⟩) n c := by
  rcases h.2 with ⟨rfl, h0⟩ | ⟨g, cap, cur, rfl, _⟩
  · exact .inl ⟨rfl, h0⟩
  · exact .inr ⟨g, cap, rfl⟩
theorem row_tr {a b c : World} {row : Option Nat} (h : a.grownBy b row) (g : b.grownBy c row) : a.grownBy c row :=
  ⟨g.os.trans h.os, g.tape.trans h.tape, g.output.trans h.output, Nat.le_trans h.size g.size, fun k hk hr => (g.block k (Nat.lt_of_lt_of_le hk h.size) hr).trans (h.block k hk hr)⟩
theorem wk_slice {w : World} {B n size : Nat} {v : Value} {e : TypeId} {xs : List Value} (h : w.ownsRow B e size v n xs) : ∃ a c, v = .slice a n c := by
  rcases h.2 with ⟨rfl, rfl⟩ | ⟨g, cap, cur, rfl, _⟩
  · exact ⟨_, _, rfl⟩
  · exact ⟨_, _, rfl⟩
theorem own_base {w : World} {B B' n size : Nat} {e : TypeId} {v : Value} {xs : List Value} (h : w.ownsRow B e size v n xs) (hB : B' ≤ B) : w.ownsRow B' e size v n xs := by
  refine ⟨h.1, ?_⟩
  rcases h.2 with h0 | ⟨g, cap, cur, h1, h2, h3⟩
  · exact .inl h0
  · exact .inr ⟨g, cap, cur, h1, Nat.le_trans hB h2, h3⟩
theorem wk_set {w : World} {p : Nat} {cs : Array Value} {t : TypeId} (h : w.heap[p]? = some (.cells cs t (0, 0))) (i : Nat) (u : Value) : (w.setCell ⟨p, i, none⟩ u).heap[p]? = some (.cells (cs.setIfInBounds i u) t (0, 0)) := by
  simp [World.setCell, Array.getElem?_modify, h]
theorem own_ne {w : World} {B size n p : Nat} {e t : TypeId} {v : Value} {xs : List Value} {cs : Array Value} {fz : Nat × Nat} (h : w.ownsRow B e size v n xs) (hp : w.heap[p]? = some (.cells cs t fz)) (ht : t ≠ e) : v.ownBlock ≠ some p := by
  intro hv
  obtain ⟨c, f, hc⟩ := Lib.ownsRow_kind h p hv
  rw [hp] at hc
  simp only [Option.some.injEq, Obj.cells.injEq] at hc
  exact ht hc.2.1
theorem own_ne2 {w : World} {B size n B' size' n' : Nat} {e t : TypeId} {v v' : Value} {xs xs' : List Value} (h : w.ownsRow B e size v n xs) (h' : w.ownsRow B' t size' v' n' xs') (ht : t ≠ e) : v.ownBlock = none ∨ v.ownBlock ≠ v'.ownBlock := by
  cases hv : v.ownBlock with
  | none => exact .inl rfl
  | some g =>
    refine .inr fun e' => ?_
    obtain ⟨c, f, hc⟩ := Lib.ownsRow_kind h' g e'.symm
    exact own_ne h hc ht hv
def kC (ks : List Int) : List Value := ks.map fun z => .int .i64 z
theorem kC_len (ks : List Int) : (kC ks).length = ks.length := by simp [kC]
theorem kind_at {w : World} {b o : Nat} {ks : List Int} (h : ∀ (j : Nat) v, (kC ks)[j]? = some v → w.cell? ⟨b, o + j, none⟩ = some v) {i : Nat} (hi : i < ks.length) : w.cell? ⟨b, o + i, none⟩ = some (.int .i64 (ks.getD i 0)) :=
  h i _ (by simp [kC, List.getD, hi])
def kI (z : Int) : List Value := [.int .i64 z]
theorem kI_len (z : Int) : (kI z).length = 1 := rfl
theorem kC_flat (ks : List Int) : flat kI ks = kC ks := by
  induction ks with
  | nil => rfl
  | cons a t ih => rw [flat_cons, ih]; rfl
theorem cInt1 : Try.prog.cellsOf 3 = 1 := by kernel_rfl
theorem came_ks {W : World} {a : Option Addr} {n c : Nat} (h : Came Try.prog W 22 [.slice a n c]) : n ≤ maxLen ∧ n ≤ c ∧ ∃ ks : List Int, ks.length = n ∧ Lies W a (kC ks) := by
  obtain ⟨h1, h2, zs, h3, h4⟩ := lies_came kI kI_len (by decide) Try.underlying22 cInt1 (fun es g => by
    obtain ⟨z, e, _⟩ := came_int Try.underlying3 g
    exact ⟨z, e⟩) h
  exact ⟨h1, h2, zs, h3, kC_flat zs ▸ h4⟩
theorem toIntS_any (ks : List Int) (a : Option Addr) (c : Nat) (hn : ks.length ≤ 1048576) (w : World) (hz : Lies w a (kC ks)) :
    Calls Try.prog 45 #[.slice a ks.length c] w fun e w' => e = .returned (.slice (some ⟨w.heap.size, 0, none⟩) ks.length ks.length) ∧ w'.ownsRow w.heap.size 3 1 (.slice (some ⟨w.heap.size, 0, none⟩) ks.length ks.length) ks.length (kC ks) ∧ Below w.heap.size w w' := by
  obtain ⟨i0, hi, hz0, hz1, hz2⟩ := info_parts (show (Try.prog.info? 3).map (fun i => (i.zero, i.size, i.bytes)) = some (some (.int .i64 0), 1, 8) by kernel_rfl)
  have HI := Lib.hid (And.intro hi (And.intro hz0 (And.intro hz1 hz2)))
  clear hi hz0 hz1 hz2
  have Hz := Lib.hid hz
  clear hz
  have HKF := Lib.hid (kC_flat ks)
  generalize hL : ks.length = n at *
  have HL := Lib.hid hL
  clear hL
  go_enter Try.func45, Try.ntmps45
  go_wp2_with (at_make; go_must (refine wpList_make_full _ rfl _ _ _ rfl w.heap.size 3 i0 _ 1 Try.underlying22 HI.out.1 HI.out.2.1 HI.out.2.2.1 .i64 .i64 _ _ n rfl rfl rfl rfl (by rw [HI.out.2.2.2]; omega) (by unfold maxLen; omega) (Nat.le_refl _) ?_); intro w1 hown1 hgrow1)
  have Ho1 := Lib.hid (Filled.zero (enc := kI) (zs := ks) hown1)
  have Hb1 := Lib.hid ((Below.refl w.heap.size w).grown hgrow1 (Nat.le_refl _) (by intro k hk; cases hk))
  clear hown1 hgrow1
  go_loopw [4] (fun i wr => ∃ k : Nat, k ≤ n ∧ i = .int .i64 k ∧ Hid (Filled kI 1 wr w.heap.size 3 w.heap.size n n ks k) ∧ Hid (Below w.heap.size w wr)) (fun i _ => n - (intOf i).toNat)
  case atStart => exact ⟨0, Nat.zero_le _, rfl, Ho1, Hb1⟩
  case round =>
    obtain ⟨k, hk, rfl, ho, hb⟩ := hrel
    by_cases hlt : k < n
    · obtain ⟨b, o, rfl, hbl, hcs⟩ := Hz.out.open (by rw [kC_len, HL.out]; omega)
      have c0 := kind_at hcs (i := k) (by rw [HL.out]; exact hlt)
      have d0 := (hb.out.cell (p := ⟨b, o + k, none⟩) hbl).trans c0
      have HX : Hid (ks[k]? = some (ks.getD k 0)) := Lib.hid (by simp [List.getD, HL.out, hlt])
      clear hcs c0
      generalize ks.getD k 0 = x at *
      obtain ⟨v0, e0⟩ := ho.out.there hlt 0 (by omega)
      have f0 := ho.out.free (k * 1)
      obtain ⟨hs, hg⟩ := ho.out.store kI_len HL.out HX.out
      rw [Nat.mul_one] at hs hg f0
      rw [Nat.mul_one, Nat.add_zero] at e0
      have Hs : Hid (Filled kI 1 (wr.setCell ⟨w.heap.size, k, none⟩ (.int .i64 x)) w.heap.size 3 w.heap.size n n ks (k + 1)) := Lib.hid hs
      have Hg : Hid (Below w.heap.size w (wr.setCell ⟨w.heap.size, k, none⟩ (.int .i64 x))) := Lib.hid (hb.out.setCell (p := ⟨w.heap.size, k, none⟩) (Nat.le_refl _) _)
      clear hs hg
      go_wp2
      go_roundw
      case rel => exact ⟨k + 1, by omega, by go_num, Hs, Hg⟩
      case measure => simp [intOf]; omega
    · obtain rfl : k = n := by omega
      go_wp2
      go_ret
      exact ⟨rfl, HKF.out ▸ ho.out.full HL.out, hb.out⟩
theorem eqIntS_same (ks : List Int) (a b : Option Addr) (c d : Nat) (hn : ks.length ≤ 1048576) (w : World) (hz : Lies w a (kC ks)) (hy : Lies w b (kC ks)) :
    Calls Try.prog 31 #[.slice a ks.length c, .slice b ks.length d] w fun e w' => e = .returned (.bool true) ∧ Below w.heap.size w w' := by
  have Hz := Lib.hid hz
  have Hy := Lib.hid hy
  clear hz hy
  generalize hL : ks.length = n at *
  have HL := Lib.hid hL
  clear hL
  have hs : ((n : Int) != n) = false := by simp
  go_enter Try.func31, Try.ntmps31
  go_wp2
  go_loopw [5] (fun i wr => ∃ k : Nat, k ≤ n ∧ i = .int .i64 k ∧ Hid (Below w.heap.size w wr)) (fun i _ => n - (intOf i).toNat)
  case atStart => exact ⟨0, Nat.zero_le _, rfl, Lib.hid (Below.refl _ _)⟩
  case round =>
    obtain ⟨k, hk, rfl, hb⟩ := hrel
    by_cases hlt : k < n
    · obtain ⟨b1, o1, rfl, hb1, hc1⟩ := Hz.out.open (by rw [kC_len, HL.out]; omega)
      obtain ⟨b2, o2, rfl, hb2, hc2⟩ := Hy.out.open (by rw [kC_len, HL.out]; omega)
      have d0 := (hb.out.cell (p := ⟨b1, o1 + k, none⟩) hb1).trans (kind_at hc1 (i := k) (by rw [HL.out]; exact hlt))
      have d1 := (hb.out.cell (p := ⟨b2, o2 + k, none⟩) hb2).trans (kind_at hc2 (i := k) (by rw [HL.out]; exact hlt))
      clear hc1 hc2
      generalize ks.getD k 0 = x at *
      have hxx : (x != x) = false := by simp
      go_wp2_with fail
      go_quiet (fail)
      go_wp2
      go_roundw
      case rel => exact ⟨k + 1, by omega, by go_num, Lib.hid (bel_dn hb.out _)⟩
      case measure => simp [intOf]; omega
    · obtain rfl : k = n := by omega
      go_wp2
      go_ret
      exact ⟨rfl, hb.out⟩
def marksI (m : Int) : Nat → List Int
  | 0 => []
  | k + 1 => marksI m k ++ [m + k]
theorem marksI_len (m : Int) (k : Nat) : (marksI m k).length = k := by
  induction k with
  | zero => rfl
  | succ k ih => simp [marksI, ih]
theorem marksI_at (m : Int) : ∀ (n k : Nat), k < n → (marksI m n)[k]? = some (m + k)
  | n + 1, k, h => by
    by_cases e : k < n
    · rw [marksI, List.getElem?_append_left (by rw [marksI_len]; exact e)]
      exact marksI_at m n k e
    · obtain rfl : k = n := by omega
      rw [marksI, List.getElem?_append_right (by rw [marksI_len]; exact Nat.le_refl _), marksI_len]
      simp
theorem markIntS_any (B g n cap : Nat) (xs : List Value) (m : Int) (hm : 0 ≤ m ∧ m ≤ 1000000000) (hn : n ≤ 1048576) (w : World) (ho : w.ownsRow B 3 1 (.slice (some ⟨g, 0, none⟩) n cap) n xs) :
    Calls Try.prog 34 #[.slice (some ⟨g, 0, none⟩) n cap, .int .i64 m] w fun e w' => e = .returned (.int .i64 (m + n)) ∧ w'.ownsRow B 3 1 (.slice (some ⟨g, 0, none⟩) n cap) n (kC (marksI m n)) ∧ w.grownBy w' (some g) := by
  have Ho := Lib.hid (Filled.zero (enc := kI) (zs := marksI m n) ho)
  have HKF := Lib.hid (kC_flat (marksI m n))
  clear ho
  go_enter Try.func34, Try.ntmps34
  go_wp2
  go_loopw [1, 5] (fun q i wr => ∃ k : Nat, k ≤ n ∧ i = .int .i64 k ∧ q = .int .i64 (m + k) ∧ Hid (Filled kI 1 wr B 3 g n cap (marksI m n) k) ∧ Hid (w.grownBy wr (some g))) (fun _ i _ => n - (intOf i).toNat)
  case atStart => exact ⟨0, Nat.zero_le _, rfl, by go_num, Ho, Lib.hid (World.grownBy.refl _ _)⟩
  case round =>
    obtain ⟨k, hk, rfl, rfl, ho, hg⟩ := hrel
    by_cases hlt : k < n
    · obtain ⟨v0, e0⟩ := ho.out.there hlt 0 (by omega)
      have f0 := ho.out.free (k * 1)
      obtain ⟨hs, hg2⟩ := ho.out.store kI_len (marksI_len m n) (marksI_at m n k hlt)
      rw [Nat.mul_one] at hs hg2 f0
      rw [Nat.mul_one, Nat.add_zero] at e0
      have Hs : Hid (Filled kI 1 (wr.setCell ⟨g, k, none⟩ (.int .i64 (m + k))) B 3 g n cap (marksI m n) (k + 1)) := Lib.hid hs
      have Hg : Hid (w.grownBy (wr.setCell ⟨g, k, none⟩ (.int .i64 (m + k))) (some g)) := Lib.hid (row_tr hg.out hg2)
      clear hs hg2
      go_wp2
      go_roundw
      case rel => exact ⟨k + 1, by omega, by go_num, by go_num, Hs, Hg⟩
      case measure => simp [intOf]; omega
    · obtain rfl : k = n := by omega
      go_wp2
      go_ret
      exact ⟨rfl, HKF.out ▸ ho.out.full (marksI_len m k), hg.out⟩
def MarkIPost (B n : Nat) (v : Value) (m : Int) (w : World) (e : Ending) (w' : World) : Prop :=
  e = .returned (.int .i64 (m + n)) ∧ w'.ownsRow B 3 1 v n (kC (marksI m n)) ∧ w.grownBy w' v.ownBlock
theorem markIntS_own (B n c : Nat) (a : Option Addr) (xs : List Value) (m : Int) (hm : 0 ≤ m ∧ m ≤ 1000000000) (hn : n ≤ 1048576) (w : World) (ho : w.ownsRow B 3 1 (.slice a n c) n xs) :
    Calls Try.prog 34 #[.slice a n c, .int .i64 m] w (MarkIPost B n (.slice a n c) m w) := by
  rcases own_form ho with ⟨hv, rfl⟩ | ⟨g, c', hv⟩
  · simp only [Value.slice.injEq] at hv
    obtain ⟨rfl, _, rfl⟩ := hv
    clear ho
    go_enter Try.func34, Try.ntmps34
    go_wp2
    go_loop [1, 5] (fun q i => q = .int .i64 m ∧ i = .int .i64 0) (fun _ i => 0)
    case atStart => exact ⟨rfl, rfl⟩
    case round =>
      obtain ⟨rfl, rfl⟩ := hrel
      go_wp2
      go_ret
      exact ⟨by simp, World.ownsRow_nil _ _ _ _, World.grownBy.refl _ _⟩
  · simp only [Value.slice.injEq] at hv
    obtain ⟨rfl, _, rfl⟩ := hv
    exact (markIntS_any B g n c xs m hm hn w ho).mono fun _ _ h => h
theorem heldIntS_any (n cap : Nat) (a : Option Addr) (m : Int) (hm : 0 ≤ m ∧ m ≤ 1000000000) (hn : n ≤ 1048576) (w : World) (hz : Lies w a (kC (marksI m n))) :
    Calls Try.prog 35 #[.slice a n cap, .int .i64 m] w fun e w' => e = .returned (.int .i64 (m + n)) ∧ w = w' := by
  have Hz := Lib.hid hz
  clear hz
  go_enter Try.func35, Try.ntmps35
  go_wp2
  go_loop [1, 5] (fun q i => ∃ k : Nat, k ≤ n ∧ i = .int .i64 k ∧ q = .int .i64 (m + k)) (fun _ i => n - (intOf i).toNat)
  case atStart => exact ⟨0, Nat.zero_le _, rfl, by go_num⟩
  case round =>
    obtain ⟨k, hk, rfl, rfl⟩ := hrel
    by_cases hlt : k < n
    · obtain ⟨b, o, rfl, hbl, hcs⟩ := Hz.out.open (by rw [kC_len, marksI_len]; omega)
      have c0 := kind_at hcs (i := k) (by rw [marksI_len]; exact hlt)
      have hx : (marksI m n).getD k 0 = m + k := by rw [List.getD, marksI_at m n k hlt]; rfl
      rw [hx] at c0
      clear hcs hx
      go_wp2
      go_round
      case rel => exact ⟨k + 1, by omega, by go_num, by go_num⟩
      case measure => simp [intOf]; omega
    · obtain rfl : k = n := by omega
      go_wp2
      go_ret
      exact ⟨rfl, rfl⟩
theorem szIntS_ok (a : Option Addr) (n c : Nat) (left : Int) (h : (n : Int) ≤ left) (hl : left ≤ 1048576) (w : World) : Calls Try.prog 42 #[.slice a n c, .int .i64 left] w fun e w' => e = .returned (.int .i64 (left - n)) ∧ w = w' := by
  go_enter Try.func42, Try.ntmps42
  go_wp2
  go_ret
  exact ⟨rfl, rfl⟩
theorem szIntS_no (a : Option Addr) (n c : Nat) (left : Int) (hn : n ≤ maxLen) (h : left < (n : Int)) (hl : 0 ≤ left) (w : World) : Calls Try.prog 42 #[.slice a n c, .int .i64 left] w fun e w' => e = .returned (.int .i64 (-1)) ∧ w = w' := by
  unfold maxLen at hn
  go_enter Try.func42, Try.ntmps42
  go_wp2
  go_ret
  exact ⟨rfl, rfl⟩
def ToIntPost (B : Nat) (n : Nat) (xs : List Value) (w : World) (e : Ending) (w' : World) : Prop := ∃ g, e = .returned (.slice (some ⟨g, 0, none⟩) n n) ∧ w'.ownsRow B 3 1 (.slice (some ⟨g, 0, none⟩) n n) n xs ∧ Below w.heap.size w w'
theorem toIntS_ex (l : List Int) (a : Option Addr) (c : Nat) (hn : l.length ≤ 1048576) (w : World) (hz : Lies w a (kC l)) :
    Calls Try.prog 45 #[.slice a l.length c] w (ToIntPost w.heap.size l.length (kC l) w) := (toIntS_any l a c hn w hz).mono fun e w' ⟨h1, h2, h3⟩ => ⟨_, h1, h2, h3⟩
end Go.Proofs.Ytgbnoaclklbjbaa
