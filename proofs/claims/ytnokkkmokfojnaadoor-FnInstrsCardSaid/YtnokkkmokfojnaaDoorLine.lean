/- A line and an instruction drawn for the law on texts. -/
import Derived.Test.YtnokkkmokfojnaaDoorDrawIns
import Derived.Test.YtnokkkmokfojnaaDoorText
import Derived.Test.YtnokkkmokfojnaaDoorReadI
import Derived.Test.YtnokkkmokfojnaaDoorLawCode
import Derived.Outline
namespace Go.Proofs.YtnokkkmokfojnaaDoor
open Go.ChangeShapes Go.WideShapes Go.ChangeAt Go.RowKit
def isShort : Value → Bool
  | .string t => decide (t.size ≤ 40)
  | _ => false
theorem short_at {cs : Array Value} {i n : Nat} (h : cs.toList.all isShort = true) (hn : cs.size = n) (hi : i < n) : ∃ t : ByteArray, cs[i]? = some (.string t) ∧ t.size ≤ 40 := by
  obtain ⟨v, hv⟩ : ∃ v, cs[i]? = some v := ⟨_, Array.getElem?_eq_getElem (by omega)⟩
  have := List.all_eq_true.1 h v (by rw [Array.mem_toList_iff]; exact Array.mem_of_getElem? hv)
  cases v <;> simp [isShort] at this
  exact ⟨_, hv, this⟩
def StrPost (p : Nat) (w : World) (e : Ending) (w' : World) : Prop :=
  ∃ t : ByteArray, e = .returned (.string t) ∧ t.size ≤ 100 ∧ w.grownBy w' (some p)
theorem pick_any (B p N b m c : Nat) (cs : Array Value) (T : TypeId) (w : World) (hS : Src w B p N) (hN : N ≤ 1152921504606846900) (hb : w.heap[b]? = some (.cells cs T (0, 0))) (hbp : b ≠ p) (hm : 2 ≤ m ∧ m ≤ 1000) (hc : cs.size = m) (hs : cs.toList.all isShort = true) :
    Calls Tryd.prog 63 #[.pointer (some ⟨p, 0, none⟩), .slice (some ⟨b, 0, none⟩) m c] w (StrPost p w) := by
  have HS := Lib.hid hS
  have hbl : b < w.heap.size := by
    rcases Nat.lt_or_ge b w.heap.size with h | h
    · exact h
    · rw [Array.getElem?_eq_none h] at hb; cases hb
  have HK := Lib.hid hb
  have HC := Lib.hid (fun (i : Nat) hi => short_at (i := i) hs hc hi)
  have q0 : ((m : Int) == 0) = false := beq_eq_false_iff_ne.2 (by omega)
  clear hS hb hc hs
  go_enter Tryd.func63, Tryd.ntmps63
  go_wp2_with fail
  refine (next_any B p N m w HS.out (by omega) (by omega) (by omega)).mono ?_
  rintro e w1 ⟨v, rfl, lo, hi, hS1, hg1⟩
  obtain ⟨u, rfl⟩ := Int.eq_ofNat_of_zero_le lo
  have hu : (u : Int) < (m : Int) := by omega
  obtain ⟨t, ht, hl⟩ := HC.out u (by omega)
  have c0 : w1.cell? ⟨b, u, none⟩ = some (.string t) := by
    rw [cell_of_row _ _ u _ _ _ ((hg1.block b hbl (by intro e; injection e; omega)).trans HK.out)]
    exact ht
  have Hg := Lib.hid hg1
  have Hl := Lib.hid hl
  clear hS1 hg1 ht hl HC HK
  go_wp2
  go_ret
  exact ⟨t, rfl, by have := Hl.out; omega, Hg.out⟩
theorem below_grownN {w w' : World} {row : Option Nat} (h : Below w.heap.size w w') : w.grownBy w' row := by
  obtain ⟨h1, h2, h3, h4, h5⟩ := h
  exact ⟨h1, h2, h3, h4, fun k hk _ => h5 k hk⟩
theorem insL_len' {k : Nat} {a : Int} (h : okB (k : Int) a = true) : (insL k a).length ≤ 40 := by
  have := txt_len (k : Int) a
  rwa [(txt_in h).1] at this
theorem instrLine_any (B p N : Nat) (w : World) (hS : Src w B p N) (hN : N ≤ 1000000) :
    Calls Tryd.prog 42 #[.pointer (some ⟨p, 0, none⟩)] w (StrPost p w) := by
  have hp := hS.2.1
  go_enter Tryd.func42, Tryd.ntmps42
  go_wp2_with fail
  refine (instr_any B p N w hS (by omega)).mono ?_
  rintro e w1 ⟨n, a, rfl, hok, hS1, hg1⟩
  obtain ⟨k, rfl, k1, k2, _, _⟩ := okB_nat hok
  have HL := Lib.hid (insL_len' hok)
  have HR := Lib.hid (ok_rng hok)
  have S1 := Lib.hid hS1
  have G1 := Lib.hid hg1
  clear hS1 hg1 hok hS
  go_wp2_with fail
  refine (l02Text_any k a k1 k2 HR.out w1).mono ?_
  rintro e w2 ⟨rfl, hb2⟩
  have S2 := Lib.hid (S1.out.grown (row := none) (below_grownN hb2) (by intro e; cases e) (by intro k e; cases e))
  have G2 := Lib.hid (grown_tr G1.out (below_grownN hb2))
  clear hb2
  generalize hX : insL k a = X at *
  clear hX
  have hl := HL.out
  go_wp2_with fail
  refine (next_any B p (N + 10) 10 w2 S2.out (by omega) (by omega) (by omega)).mono ?_
  rintro e w3 ⟨v, rfl, lo, hi, hS3, hg3⟩
  have S3 := Lib.hid hS3
  have G3 := Lib.hid (grown_tr G2.out hg3)
  clear hS3 hg3
  have hp3 := G3.out.size
  by_cases v0 : v = 0
  · subst v0
    go_wp2
    go_ret
    exact ⟨_, rfl, by simp [ByteArray.size_append, mk_size]; omega, G3.out⟩
  by_cases v1 : v = 1
  · subst v1
    go_wp2
    go_ret
    exact ⟨_, rfl, by simp [ByteArray.size_append, mk_size]; omega, G3.out⟩
  by_cases v2 : v = 2
  · subst v2
    go_wp2_with fail
    refine (pick_any B p (N + 10 + 3) w3.heap.size 12 _ _ _ _ (S3.out.alloc _) (by omega) (heap_alloc_new w3 _) (by omega) (by omega) rfl (by rfl)).mono ?_
    rintro e w4 ⟨t, rfl, ht, hg4⟩
    have G4 := Lib.hid (grown_tr (grown_tr G3.out (World.grownBy_alloc w3 _ (some p))) hg4)
    have Ht := Lib.hid ht
    clear hg4 ht
    go_wp2
    go_ret
    exact ⟨_, rfl, Ht.out, G4.out⟩
  · go_wp2
    go_ret
    exact ⟨_, rfl, by rw [mk_size]; omega, G3.out⟩
theorem specInstrLine_any (a : Option Addr) (n c : Nat) (w : World) (h : Bytes0 w w.heap.size a n) :
    Calls Tryd.prog 13 #[.slice a n c] w fun e w' => ∃ t : ByteArray, e = .returned (.string t) ∧ t.size ≤ 100 ∧ Below w.heap.size w w' := by
  go_enter Tryd.func13, Tryd.ntmps13
  go_wp2_with fail
  refine (source_any a n c w h).mono ?_
  rintro e w1 ⟨rfl, hS, hb⟩
  have H1 := Lib.hid hS
  have B1 := Lib.hid hb
  clear hS hb
  go_wp2_with fail
  refine (instrLine_any w.heap.size w.heap.size 0 _ H1.out (by omega)).mono ?_
  rintro e w2 ⟨t, rfl, ht, hg2⟩
  have B2 := Lib.hid (B1.out.grown hg2 B1.out.size (by intro k hk; cases hk; exact Nat.le_refl _))
  have Ht := Lib.hid ht
  clear hg2 ht
  go_wp2
  go_ret
  exact ⟨t, rfl, Ht.out, B2.out⟩
theorem specInstrDrawn_any (a : Option Addr) (n c : Nat) (w : World) (h : Bytes0 w w.heap.size a n) :
    Calls Tryd.prog 16 #[.slice a n c] w fun e w' => ∃ k a : Int, e = .returned (.agg #[.int .i64 k, .int .i64 a]) ∧ okB k a = true ∧ Below w.heap.size w w' := by
  have Hb := Lib.hid ((Below.refl w.heap.size w).alloc (Nat.le_refl _) (.cells #[.int .i64 0, .int .i64 0] 25))
  go_enter Tryd.func16, Tryd.ntmps16
  go_wp2_with fail
  refine (source_any a n c _ (h.bel Hb.out (by simp))).mono ?_
  rintro e w1 ⟨rfl, hS, hb⟩
  obtain ⟨f0, f1⟩ := keep_free2 hb
  have K1 := Lib.hid ((hb.block w.heap.size (by simp)).trans (heap_alloc_new w _))
  have hz1 : w.heap.size < w1.heap.size := by have := hb.size; simp at this; omega
  have hq : (w.alloc (.cells #[.int .i64 0, .int .i64 0] 25)).heap.size = w.heap.size + 1 := by simp
  rw [hq] at hS
  have H1 := Lib.hid hS
  have B1 := Lib.hid (Hb.out.trans (hb.mono Hb.out.size))
  clear hS hb
  go_wp2_with fail
  refine (instr_any _ _ 0 _ H1.out (by omega)).mono ?_
  rintro e w2 ⟨x, y, rfl, hok, _, hg2⟩
  have K2 := (hg2.block w.heap.size hz1 (by intro e; injection e with e; omega)).trans K1.out
  obtain ⟨c0, c1, f2, f3⟩ := blk_two K2
  have B2 := Lib.hid (B1.out.grown hg2 B1.out.size (by intro k hk; cases hk; omega))
  have Hk := Lib.hid hok
  clear hg2 hok K2
  go_wp2
  refine bodyPost_ret (v := .agg #[.int .i64 x, .int .i64 y]) (by simp [results, Tryd.results16, go_sem, c0, c1]) rfl ?_
  exact ⟨x, y, rfl, Hk.out, (B2.out.setCell (p := ⟨w.heap.size, 0, none⟩) (Nat.le_refl _) _).setCell (p := ⟨w.heap.size, 1, none⟩) (Nat.le_refl _) _⟩
end Go.Proofs.YtnokkkmokfojnaaDoor
