/- FbText of impl and of spec. -/
import Derived.Test.YtknfimadhnlpjaaDoorFbOK
import Derived.Test.YtknfimadhnlpjaaDoorPow
import Derived.Test.YtknfimadhnlpjaaDoorDig
import Derived.Deep.RegionWith
import Derived.Deep.RegionHeld3
namespace Go.Proofs.YtknfimadhnlpjaaDoor
open Go.ChangeShapes Go.WideShapes Go.ChangeAt Go.RowKit
def fbNm (k : Int) : List UInt8 := if k = 1 then [116, 105, 109, 101, 114] else if k = 2 then [99, 111, 117, 110, 116, 101, 114] else if k = 3 then [101, 100, 103, 101] else [108, 97, 116, 99, 104]
def fbSt (k s : Int) : List UInt8 := if k = 1 then [32, 115, 116, 97, 114, 116, 32] ++ Lib.itoa s else []
def fbCt (k c : Int) : List UInt8 := if k = 1 ∨ k = 2 then [32, 99, 111, 117, 110, 116, 32] ++ Lib.itoa c else []
def fbL (k : Int) (o : Bool) (s c : Int) : List UInt8 := fbNm k ++ ((if o = true then [32, 111, 110] else [32, 111, 102, 102]) ++ (fbSt k s ++ fbCt k c))
def fbTF (k : Int) (o : Bool) (s c : Int) : List UInt8 := if fbOKB k o s c = true then fbL k o s c else []
def fbTC (k : Int) (o : Bool) (s c : Int) : Int := if fbOKB k o s c = true then 0 else 1
theorem fb_rt {a b : List UInt8} {c d : Int} (h : a = b) (g : c = d) : Ending.returned (.tuple #[.string ⟨a.toArray⟩, .int .i64 c]) = .returned (.tuple #[.string ⟨b.toArray⟩, .int .i64 d]) := by rw [h, g]
theorem fb_rl {a b : List UInt8} (h : a = b) : Ending.returned (.string ⟨a.toArray⟩) = .returned (.string ⟨b.toArray⟩) := by rw [h]
theorem fbText_in {k : Int} {o : Bool} {s c : Int} (h : fbOKB k o s c = true) : fbTF k o s c = fbL k o s c ∧ fbTC k o s c = 0 := by unfold fbTF fbTC; rw [if_pos h, if_pos h]; exact ⟨rfl, rfl⟩
theorem fbText_out {k : Int} {o : Bool} {s c : Int} (h : fbOKB k o s c = false) : fbTF k o s c = [] ∧ fbTC k o s c = 1 := by unfold fbTF fbTC; rw [if_neg (by rw [h]; simp), if_neg (by rw [h]; simp)]; exact ⟨rfl, rfl⟩
theorem fb_kinds' {k : Int} {o : Bool} {s c : Int} (h : fbOKB k o s c = true) : (k = 1 ∧ (0 ≤ s ∧ s ≤ 2147483647) ∧ (0 ≤ c ∧ c ≤ 2147483647)) ∨ (k = 2 ∧ s = 0 ∧ (0 ≤ c ∧ c ≤ 2147483647)) ∨ (k = 3 ∧ s = 0 ∧ c = 0) ∨ (k = 4 ∧ s = 0 ∧ c = 0) := by
  unfold fbOKB fbIn at h
  split at h
  · simp at h
    omega
  · split at h
    · simp at h
      omega
    · split at h
      · simp at h
        omega
      · cases h
theorem heap_keep' {w : World} {b : Nat} {o o' : Obj} (h : w.heap[b]? = some o) : (w.alloc o').heap[b]? = some o := by
  have hb : b < w.heap.size := by
    rcases Nat.lt_or_ge b w.heap.size with h' | h'
    · exact h'
    · rw [Array.getElem?_eq_none h'] at h; cases h
  exact (heap_alloc_old w o' hb).trans h
theorem fb_keepK {w1 w2 : World} {O : Obj} (hb : Below (w1.alloc O).heap.size (w1.alloc O) w2) : w2.heap[w1.heap.size]? = some O := (hb.block w1.heap.size (by simp)).trans (heap_alloc_new w1 O)
set_option maxHeartbeats 1000000 in
theorem fbText_1 (o : Bool) (s c : Int) (hv : fbOKB 1 o s c = true) (hs : 0 ≤ s ∧ s ≤ 2147483647) (hc : 0 ≤ c ∧ c ≤ 2147483647) (w : World) (ht : FbTab w) (hp : Pow10 w) : Calls Tryd.prog 17 #[fbE 1 o s c] w fun e w' => e = .returned (.tuple #[.string ⟨(fbL 1 o s c).toArray⟩, .int .i64 0]) ∧ Below w.heap.size w w' := by
  have Hb := Lib.hid (fb_b0 1 o s c w)
  have Ht := Lib.hid (ht.below Hb.out (Nat.le_refl _))
  have HK := Lib.hid hv
  have Hp := Lib.hid (hp.below Hb.out (Nat.le_refl _))
  have l1 := Lib.itoa_length_le s (by omega) (by omega)
  have l2 := Lib.itoa_length_le c (by omega) (by omega)
  clear ht hv hp
  cases o
  all_goals
    go_enter Tryd.func17, Tryd.ntmps17
    go_wp2_with fail
    refine (fbOK_is HK.out _ Ht.out).mono ?_
    rintro e w1 ⟨rfl, hb1⟩
    have b1 := (Below.refl w1.heap.size w1).alloc (Nat.le_refl _) (.cells #[.string ⟨#[116, 105, 109, 101, 114]⟩, .string ⟨#[98, 105]⟩, .int .i64 2147483647, .int .i64 2147483647] 50)
    have Hb1 := Lib.hid (Hb.out.trans (hb1.mono Hb.out.size))
    have Hb2 := Lib.hid (Hb1.out.trans (b1.mono Hb1.out.size))
    have Hp2 := Lib.hid ((Hp.out.below hb1 (Nat.le_refl _)).below b1 (Nat.le_refl _))
    have hk1 := fb_keep hb1
    have K1 := Lib.hid (heap_keep' (o' := .cells #[.string ⟨#[116, 105, 109, 101, 114]⟩, .string ⟨#[98, 105]⟩, .int .i64 2147483647, .int .i64 2147483647] 50) hk1)
    have hz1 : w.heap.size < w1.heap.size := by have := hb1.size; simp at this; omega
    obtain ⟨c0, c1, c2, c3⟩ := fb_cells hk1
    obtain ⟨e0, e1, e2, e3⟩ := (Ht.out.below hb1 (Nat.le_refl _)) 1 _ rfl
    clear hb1 b1 hk1
    go_wp2_with fail
    refine (itoa_any s (by omega) (by omega) _ Hp2.out).mono ?_
    rintro e w2 ⟨rfl, hb2⟩
    have Hb3 := Lib.hid (Hb2.out.trans (hb2.mono Hb2.out.size))
    have Hp3 := Lib.hid (Hp2.out.below hb2 (Nat.le_refl _))
    obtain ⟨f0, f1, f2, f3⟩ := fb_cells (fb_keepK hb2)
    obtain ⟨g0, g1, g2, g3⟩ := fb_cells ((hb2.block w.heap.size (by simp; omega)).trans K1.out)
    clear hb2 c0 c1 c2 c3 e0 e1 e2 e3
    go_wp2_with fail
    refine (itoa_any c (by omega) (by omega) _ Hp3.out).mono ?_
    rintro e w3 ⟨rfl, hb3⟩
    have Hb4 := Lib.hid (Hb3.out.trans (hb3.mono Hb3.out.size))
    clear hb3
    go_wp2
    go_ret2
    exact ⟨fb_rt (by simp [fbL, fbNm, fbSt, fbCt]) rfl, Hb4.out⟩
set_option maxHeartbeats 1000000 in
theorem fbText_2 (o : Bool) (c : Int) (hv : fbOKB 2 o 0 c = true) (hc : 0 ≤ c ∧ c ≤ 2147483647) (w : World) (ht : FbTab w) (hp : Pow10 w) : Calls Tryd.prog 17 #[fbE 2 o 0 c] w fun e w' => e = .returned (.tuple #[.string ⟨(fbL 2 o 0 c).toArray⟩, .int .i64 0]) ∧ Below w.heap.size w w' := by
  have Hb := Lib.hid (fb_b0 2 o 0 c w)
  have Ht := Lib.hid (ht.below Hb.out (Nat.le_refl _))
  have HK := Lib.hid hv
  have Hp := Lib.hid (hp.below Hb.out (Nat.le_refl _))
  have l2 := Lib.itoa_length_le c (by omega) (by omega)
  clear ht hv hp
  cases o
  all_goals
    go_enter Tryd.func17, Tryd.ntmps17
    go_wp2_with fail
    refine (fbOK_is HK.out _ Ht.out).mono ?_
    rintro e w1 ⟨rfl, hb1⟩
    have b1 := (Below.refl w1.heap.size w1).alloc (Nat.le_refl _) (.cells #[.string ⟨#[99, 111, 117, 110, 116, 101, 114]⟩, .string ⟨#[98, 98, 105]⟩, .int .i64 0, .int .i64 2147483647] 50)
    have Hb1 := Lib.hid (Hb.out.trans (hb1.mono Hb.out.size))
    have Hb2 := Lib.hid (Hb1.out.trans (b1.mono Hb1.out.size))
    have Hp2 := Lib.hid ((Hp.out.below hb1 (Nat.le_refl _)).below b1 (Nat.le_refl _))
    have hk1 := fb_keep hb1
    have K1 := Lib.hid (heap_keep' (o' := .cells #[.string ⟨#[99, 111, 117, 110, 116, 101, 114]⟩, .string ⟨#[98, 98, 105]⟩, .int .i64 0, .int .i64 2147483647] 50) hk1)
    have hz1 : w.heap.size < w1.heap.size := by have := hb1.size; simp at this; omega
    obtain ⟨c0, c1, c2, c3⟩ := fb_cells hk1
    obtain ⟨e0, e1, e2, e3⟩ := (Ht.out.below hb1 (Nat.le_refl _)) 2 _ rfl
    clear hb1 b1 hk1
    go_wp2_with fail
    refine (itoa_any c (by omega) (by omega) _ Hp2.out).mono ?_
    rintro e w2 ⟨rfl, hb2⟩
    have Hb3 := Lib.hid (Hb2.out.trans (hb2.mono Hb2.out.size))
    clear hb2
    go_wp2
    go_ret2
    exact ⟨fb_rt (by simp [fbL, fbNm, fbSt, fbCt]) rfl, Hb3.out⟩
set_option maxHeartbeats 1000000 in
theorem fbText_3 (o : Bool) (hv : fbOKB 3 o 0 0 = true) (w : World) (ht : FbTab w) : Calls Tryd.prog 17 #[fbE 3 o 0 0] w fun e w' => e = .returned (.tuple #[.string ⟨(fbL 3 o 0 0).toArray⟩, .int .i64 0]) ∧ Below w.heap.size w w' := by
  have Hb := Lib.hid (fb_b0 3 o 0 0 w)
  have Ht := Lib.hid (ht.below Hb.out (Nat.le_refl _))
  have HK := Lib.hid hv
  clear ht hv
  cases o
  all_goals
    go_enter Tryd.func17, Tryd.ntmps17
    go_wp2_with fail
    refine (fbOK_is HK.out _ Ht.out).mono ?_
    rintro e w1 ⟨rfl, hb1⟩
    have b1 := (Below.refl w1.heap.size w1).alloc (Nat.le_refl _) (.cells #[.string ⟨#[101, 100, 103, 101]⟩, .string ⟨#[98]⟩, .int .i64 0, .int .i64 0] 50)
    have Hb1 := Lib.hid (Hb.out.trans (hb1.mono Hb.out.size))
    have Hb2 := Lib.hid (Hb1.out.trans (b1.mono Hb1.out.size))
    have hk1 := fb_keep hb1
    have K1 := Lib.hid (heap_keep' (o' := .cells #[.string ⟨#[101, 100, 103, 101]⟩, .string ⟨#[98]⟩, .int .i64 0, .int .i64 0] 50) hk1)
    have hz1 : w.heap.size < w1.heap.size := by have := hb1.size; simp at this; omega
    obtain ⟨c0, c1, c2, c3⟩ := fb_cells hk1
    obtain ⟨e0, e1, e2, e3⟩ := (Ht.out.below hb1 (Nat.le_refl _)) 3 _ rfl
    clear hb1 b1 hk1
    go_wp2
    go_ret2
    exact ⟨fb_rt (by simp [fbL, fbNm, fbSt, fbCt]) rfl, Hb2.out⟩
set_option maxHeartbeats 1000000 in
theorem fbText_4 (o : Bool) (hv : fbOKB 4 o 0 0 = true) (w : World) (ht : FbTab w) : Calls Tryd.prog 17 #[fbE 4 o 0 0] w fun e w' => e = .returned (.tuple #[.string ⟨(fbL 4 o 0 0).toArray⟩, .int .i64 0]) ∧ Below w.heap.size w w' := by
  have Hb := Lib.hid (fb_b0 4 o 0 0 w)
  have Ht := Lib.hid (ht.below Hb.out (Nat.le_refl _))
  have HK := Lib.hid hv
  clear ht hv
  cases o
  all_goals
    go_enter Tryd.func17, Tryd.ntmps17
    go_wp2_with fail
    refine (fbOK_is HK.out _ Ht.out).mono ?_
    rintro e w1 ⟨rfl, hb1⟩
    have b1 := (Below.refl w1.heap.size w1).alloc (Nat.le_refl _) (.cells #[.string ⟨#[108, 97, 116, 99, 104]⟩, .string ⟨#[98, 98]⟩, .int .i64 0, .int .i64 0] 50)
    have Hb1 := Lib.hid (Hb.out.trans (hb1.mono Hb.out.size))
    have Hb2 := Lib.hid (Hb1.out.trans (b1.mono Hb1.out.size))
    have hk1 := fb_keep hb1
    have K1 := Lib.hid (heap_keep' (o' := .cells #[.string ⟨#[108, 97, 116, 99, 104]⟩, .string ⟨#[98, 98]⟩, .int .i64 0, .int .i64 0] 50) hk1)
    have hz1 : w.heap.size < w1.heap.size := by have := hb1.size; simp at this; omega
    obtain ⟨c0, c1, c2, c3⟩ := fb_cells hk1
    obtain ⟨e0, e1, e2, e3⟩ := (Ht.out.below hb1 (Nat.le_refl _)) 4 _ rfl
    clear hb1 b1 hk1
    go_wp2
    go_ret2
    exact ⟨fb_rt (by simp [fbL, fbNm, fbSt, fbCt]) rfl, Hb2.out⟩
theorem fbText_any (k : Int) (o : Bool) (s c : Int) (w : World) (ht : FbTab w) (hp : Pow10 w) : Calls Tryd.prog 17 #[fbE k o s c] w fun e w' => e = .returned (.tuple #[.string ⟨(fbTF k o s c).toArray⟩, .int .i64 (fbTC k o s c)]) ∧ Below w.heap.size w w' := by
  cases ho : fbOKB k o s c
  · have H := Lib.hid (fbText_out ho)
    have HK := Lib.hid ho
    have Hb := Lib.hid (fb_b0 k o s c w)
    have Ht := Lib.hid (ht.below Hb.out (Nat.le_refl _))
    clear ho ht hp
    go_enter Tryd.func17, Tryd.ntmps17
    go_wp2_with fail
    refine (fbOK_is HK.out _ Ht.out).mono ?_
    rintro e w1 ⟨rfl, hb1⟩
    have Hb1 := Lib.hid (Hb.out.trans (hb1.mono Hb.out.size))
    clear hb1
    go_wp2
    go_ret2
    exact ⟨fb_rt (by rw [H.out.1]) (by rw [H.out.2]), Hb1.out⟩
  · rw [(fbText_in ho).1, (fbText_in ho).2]
    have ho' := ho
    rcases fb_kinds' ho with ⟨rfl, hs, hc⟩ | ⟨rfl, rfl, hc⟩ | ⟨rfl, rfl, rfl⟩ | ⟨rfl, rfl, rfl⟩
    · exact fbText_1 o s c ho' hs hc w ht hp
    · exact fbText_2 o c ho' hc w ht hp
    · exact fbText_3 o ho' w ht
    · exact fbText_4 o ho' w ht
end Go.Proofs.YtknfimadhnlpjaaDoor
