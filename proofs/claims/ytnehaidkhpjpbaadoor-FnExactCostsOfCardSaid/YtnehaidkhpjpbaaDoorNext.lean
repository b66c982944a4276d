/- The summary of a routine behind those ahead of it: the method next of impl; the fold over routines. -/
import Derived.Test.YtnehaidkhpjpbaaDoorFold
namespace Go.Proofs.YtnehaidkhpjpbaaDoor
open Go.ChangeShapes Go.WideShapes Go.ChangeAt Go.RowKit
set_option linter.unusedVariables false
/-- A row of summaries. -/
abbrev SRow (B n : Nat) (v : Value) (l : List SM) (w : World) : Prop := w.ownsRow B 112 5 v n (flat smC l)
theorem sr_len {w : World} {B n : Nat} {v : Value} {l : List SM} (h : SRow B n v l w) : l.length = n := by
  have := h.1
  rw [flat_len smC_len] at this
  omega
theorem sr_kn {w : World} {B kn kc : Nat} {ka : Option Addr} {l : List SM} (h : SRow B kn (.slice ka kn kc) l w) : Kn w.heap.size ka l w := by
  rcases lies_own h with h0 | ⟨b, o, e, hc⟩
  · cases l with
    | nil => exact .inl rfl
    | cons a t => rw [flat_cons] at h0; simp [smC] at h0
  · cases l with
    | nil => exact .inl rfl
    | cons a t => exact .inr ⟨b, o, e, cells_lt (hc 0 (.int .i64 a.t) (by rw [flat_cons]; rfl)), hc⟩
theorem sm_new_cells (w : World) (r : SM) : ∀ j u, (smC r)[j]? = some u → (w.alloc (smO r)).cell? ((⟨w.heap.size, 0, none⟩ : Addr).add j) = some u := fun j u hj =>
  (World.ownsRow_lit (base := w.heap.size) (e := 112) (size := 5) w (smC r).toArray 1 (Nat.le_refl _) (by unfold maxLen; omega) rfl).cells (g := w.heap.size) rfl j u (by simpa using hj)
theorem smC_one (r : SM) : ∀ u ∈ smC r, u.oneCell' = true := by
  intro u hu
  simp only [smC, List.mem_cons, List.not_mem_nil, or_false] at hu
  rcases hu with rfl | rfl | rfl | rfl | rfl <;> rfl
def NextPost (B : Nat) (l : List SM) (w : World) (e : Ending) (w' : World) : Prop := Below B w w' ∧ ∃ a n c, e = .returned (.slice a n c) ∧ SRow B n (.slice a n c) l w'
abbrev roO (za : Option Addr) (n zc : Nat) : Obj := .cells #[.slice za n zc] 90
set_option maxRecDepth 100000 in
set_option maxHeartbeats 2000000 in
theorem next_any (B : Nat) (ka : Option Addr) (kn kc : Nat) (known : List SM) (za : Option Addr) (zc : Nat) (zs : List Ins) (ks : List Int) (w : World) (hB : B ≤ w.heap.size) (ht : OpTab w) (hk : SRow B kn (.slice ka kn kc) known w) (hko : ∀ a ∈ known, a.ok) (hkn : kn ≤ 6)
    (hz : Lies w za (flat insC zs)) (hn : zs.length ≤ 40) (ha : okAll zs = true) (hv : (vVer zs ks known.length).2 = 0) :
    Calls Tryd.prog 108 #[.slice ka kn kc, .agg #[.slice za zs.length zc]] w (NextPost B (known ++ [codeCost known zs]) w) := by
  obtain ⟨hst, r, hr, hro, hrk⟩ := acc_all hko ha hv
  have hkl := sr_len hk
  have hA := sm_al w (roO za zs.length zc)
  have hwl : w.heap.size < (w.alloc (roO za zs.length zc)).heap.size := by simp
  have hKN := sr_kn hk
  have HF : Hid (∀ wn, Below (w.alloc (roO za zs.length zc)).drew.heap.size (w.alloc (roO za zs.length zc)).drew wn → Calls Tryd.prog 145 #[.slice za zs.length zc, .slice (some ⟨wn.heap.size, 0, none⟩) 1 1, .func (.func 147) #[.slice ka kn kc] #[]] (wn.alloc (rgO (rgNew (0, 0)))) fun e w3 => Below w.heap.size w w3 ∧ ∃ g c, e = .returned (.slice (some ⟨g, 0, none⟩) 1 c) ∧ RRow w.heap.size g 1 c [r] w3) := Lib.hid (fun wn hb => by
    have hb1 : Below w.heap.size w wn := (sm_dr hA).trans (hb.mono hA.size)
    have hb2 : Below w.heap.size w (wn.alloc (rgO (rgNew (0, 0)))) := hb1.alloc hb1.size _
    have hrow : RRow w.heap.size wn.heap.size 1 1 [rgNew (0, 0)] (wn.alloc (rgO (rgNew (0, 0)))) := World.ownsRow_lit (base := w.heap.size) (e := 193) (size := 12) wn (rgC (rgNew (0, 0))).toArray 1 hb1.size (by unfold maxLen; omega) rfl
    have := foldR_any w.heap.size ka kc known za zc zs wn.heap.size 1 1 [rgNew (0, 0)] (wn.alloc (rgO (rgNew (0, 0)))) hb2.size ht.lt (ht.below hb2 (Nat.le_refl _)) (hKN.bel hb2) hko ⟨w, hz, Nat.le_refl _, hb2⟩ hn hrow hst
    rw [hkl] at this
    refine this.mono ?_
    rintro e w3 ⟨h1, g, n, c, rfl, h2⟩
    rw [hr] at h2
    obtain rfl : 1 = n := rr_len h2
    exact ⟨hb2.trans h1, g, c, rfl, h2⟩)
  have HNW : Hid (∀ w3, Below w.heap.size w w3 → SRow B kn (.slice ka kn kc) known w3) := Lib.hid (fun w3 h => own_bl hk h)
  have HRO : Hid (flat smC (known ++ [codeCost known zs]) = flat smC known ++ smC r.own) := Lib.hid (by rw [flat_snoc, hro])
  have d0 : (w.alloc (roO za zs.length zc)).cell? ⟨w.heap.size, 0, none⟩ = some (.slice za zs.length zc) := cell_of_row _ _ 0 _ _ _ (heap_alloc_new w (roO za zs.length zc))
  obtain ⟨i0, hi, hz0, hz1, hz2⟩ := info_parts (show (Tryd.prog.info? 112).map (fun i => (i.zero, i.size, i.bytes)) = some (some (.agg #[.int .i64 0, .int .i64 0, .int .i64 0, .int .i64 0, .int .i64 0]), 5, 40) by kernel_rfl)
  have HI := Lib.hid (And.intro hi (And.intro hz0 (And.intro hz1 hz2)))
  clear hi hz0 hz1 hz2 hKN hst hr hro hrk hko hz ha hv hk ht hA hkl
  generalize codeCost known zs = CC at *
  generalize zs.length = n at *
  go_enter Tryd.func108, Tryd.ntmps108
  go_upto_region 1 with (fail)
  go_cut [5] (fun s5 wx => ∃ g c, s5 = .slice (some ⟨g, 0, none⟩) 1 c ∧ Hid (Below w.heap.size w wx ∧ RRow w.heap.size g 1 c [r] wx))
  case first =>
    have HD : Hid (∀ wn, Below (w.alloc (roO za n zc)).drew.heap.size (w.alloc (roO za n zc)).drew wn → wn.cell? ⟨w.heap.size, 0, none⟩ = some (.slice za n zc) ∧ w.heap.size < wn.heap.size) := Lib.hid (fun wn hb => ⟨(hb.cell (p := ⟨w.heap.size, 0, none⟩) (by show w.heap.size < (w.alloc (roO za n zc)).heap.size; exact hwl)).trans d0, Nat.lt_of_lt_of_le hwl hb.size⟩)
    have hmf : ∀ (fn : Fn) (first cap : Array Value) (w : World), (Instr.makeFunc fn first cap).run Tryd.prog w = .ok (.func fn first cap) w := fun _ _ _ _ => rfl
    go_region_with (first
      | (go_at_call 146; (with_reducible refine (newRegion_any _ _ _).mono ?_); rintro e wn ⟨rfl, hbn⟩; have dn := HD.out _ hbn; obtain ⟨dn, dz⟩ := dn)
      | (go_at_call 145; (with_reducible refine (HF.out _ hbn).mono ?_); rintro e w3 ⟨hb3, g3, c3, rfl, hr3⟩))
    all_goals
      have HR3 := Lib.hid (And.intro hb3 hr3)
      go_wp2_with fail
      go_meet
      exact ⟨g3, c3, rfl, HR3⟩
  case rest =>
    obtain ⟨g, c, rfl, hc⟩ := hcut
    have HC := hc
    have HS3 := Lib.hid (HNW.out _ hc.out.1)
    have hg := (rr_lt hc.out.2).2
    have hr0 := (rr_at (b := []) (t := []) hc.out.2).2.1
    simp only [List.length_nil, Nat.zero_mul, Nat.zero_add] at hr0
    obtain ⟨c2, c3, c4, c5, c6⟩ := hr0
    have hsz := hc.out.1.size
    clear hc HF d0
    go_wp2_with (at_builtin; (refine wpList_append_own _ rfl _ _ 108 rfl B 112 i0 _ 5 40 Tryd.underlying108 HI.out.1 HI.out.2.1 HI.out.2.2.1 HI.out.2.2.2 rfl (by decide) (.slice ka kn kc) kn _ rfl (HS3.out.alloc _) ⟨wc.heap.size, 0, none⟩ 1 1 (smC r.own) rfl rfl (sm_new_cells wc r.own) (smC_one r.own) (by unfold maxLen; omega) (by omega) (by simp; omega) ?_); intro v' w4 hown hgrow _)
    obtain ⟨g', c', rfl⟩ := own_some hown (by omega)
    go_ret
    have hb1 : Below B w (wc.alloc (smO r.own)) := (HC.out.1.mono hB).alloc (by omega) _
    exact ⟨hb1.grown hgrow (by simp; omega) (fun k hk => (HS3.out.lt k hk).1), _, kn + 1, c', rfl, by unfold SRow; rw [HRO.out]; exact hown⟩
end Go.Proofs.YtnehaidkhpjpbaaDoor
