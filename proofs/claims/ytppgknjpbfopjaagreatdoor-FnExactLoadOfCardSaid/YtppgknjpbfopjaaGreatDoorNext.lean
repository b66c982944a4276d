/- Accepted code keeps the pass over it within bounds: what is open, what is called. -/
import Derived.Test.YtppgknjpbfopjaaGreatDoorReg4
import Derived.Test.YtppgknjpbfopjaaGreatDoorWalk12
import Derived.Test.YtppgknjpbfopjaaGreatDoorCode
import Derived.Test.YtppgknjpbfopjaaGreatDoorOkV
namespace Go.Proofs.YtppgknjpbfopjaaGreatDoor
set_option linter.unusedVariables false
/-- What reading x behind os needs. -/
def StepOK (known : List SM) (os : List RG) (x : Ins) : Prop := ∃ (b : List RG) (top : RG) (k : Nat), os = b ++ [top] ∧ b.length ≤ 4 ∧ (∀ r ∈ b ++ [top], r.good) ∧ x.1 = k ∧ 1 ≤ k ∧ k ≤ 26 ∧ (k = 24 → 1 ≤ x.2 ∧ x.2 ≤ 20) ∧ (k = 23 → b ≠ []) ∧ (k = 26 → 0 ≤ x.2 ∧ x.2 < known.length)
theorem acc_run {known : List SM} (hk : ∀ a ∈ known, a.ok) {ks : List Int} : ∀ (xs : List Ins) (os : List RG) (i : Nat) (w : VW), os.length = w.opn.length + 1 → (∀ r ∈ os, r.good) → w.pre → okAll xs = true → (vRun ks known.length xs i w).2.1 = 0 →
    (∀ j, j < xs.length → StepOK known (rgRun known os (xs.take j)) (xs.getD j (0, 0))) ∧ (rgRun known os xs).length = (vRun ks known.length xs i w).1.opn.length + 1 ∧ ∀ r ∈ rgRun known os xs, r.good
  | [], os, i, w, hl, hg, hp, _, _ => ⟨by simp, hl, hg⟩
  | x :: xs, os, i, w, hl, hg, hp, ha, hr => by
    rw [vRun] at hr
    by_cases hs : (vStep ks known.length x i w).2 = 0
    · rw [if_pos hs] at hr
      unfold okAll at ha
      rw [List.all_cons, Bool.and_eq_true] at ha
      obtain ⟨hx, ha'⟩ := ha
      rcases snoc_cases os with rfl | ⟨b, top, rfl⟩
      · simp at hl
      have hbl : b.length = w.opn.length := by simpa using hl
      obtain ⟨n1, n2, n3⟩ := rg_len (known := known) (top := top) hbl hs
      obtain ⟨k, hk1, h1, h2, h3, h4⟩ := okB_nat hx
      have h24 : k = 24 → 1 ≤ x.2 ∧ x.2 ≤ 20 := fun e => by subst e; exact ⟨h3, h4⟩
      have h4' := hp.o4
      have hgood : ∀ r ∈ rgStep known b top x, r.good := rgStep_good hk (fun r hr => hg r (List.mem_append_left _ hr)) (hg top (by simp)) (fun e => h24 (by omega))
      obtain ⟨i1, i2, i3⟩ := acc_run hk xs (rgStep known b top x) (i + 1) _ n1 hgood (pre_step hp hs) ha' hr
      rw [vRun, if_pos hs, rgRun_cons, rgRead_snoc]
      refine ⟨fun j hj => ?_, i2, i3⟩
      cases j with
      | zero =>
        refine ⟨b, top, k, rfl, by omega, hg, hk1, h1, h2, h24, fun e hb => ?_, fun e => ?_⟩
        · have := n2 (by omega)
          rw [hb] at this
          simp at this
        · have := n3 (by omega)
          subst e
          exact ⟨h3, this⟩
      | succ j =>
        have := i1 j (by simpa using hj)
        simpa [rgRun_cons, rgRead_snoc] using this
    · rw [if_neg hs] at hr
      exact absurd hr hs
/-- Accepted code, from its start. -/
theorem acc_all {known : List SM} (hk : ∀ a ∈ known, a.ok) {ks : List Int} {zs : List Ins} (ha : okAll zs = true) (hv : (vVer zs ks known.length).2 = 0) :
    (∀ j, j < zs.length → StepOK known (rgRun known [rgNew (0, 0)] (zs.take j)) (zs.getD j (0, 0))) ∧ ∃ r : RG, rgRun known [rgNew (0, 0)] zs = [r] ∧ r.own = codeCost known zs ∧ r.own.ok := by
  have h1 := vVer_ok hv
  obtain ⟨i1, i2, i3⟩ := acc_run hk (ks := ks) zs [rgNew (0, 0)] 0 ⟨[], []⟩ rfl (by intro r hr; rw [List.mem_singleton.1 hr]; exact rgNew_good (by intro e; simp at e)) pre_start ha h1.1
  have ho : (vRun ks known.length zs 0 ⟨[], []⟩).1.opn = [] := by
    unfold vVer at hv
    dsimp only at hv
    rw [if_neg (by rw [h1.1]; simp)] at hv
    split at hv
    · exact absurd hv (by simp)
    · rename_i e
      exact List.getLast?_eq_none_iff.1 e
  rw [ho] at i2
  match hm : rgRun known [rgNew (0, 0)] zs, i2 with
  | [r], _ =>
    refine ⟨i1, r, rfl, ?_, (i3 r (by rw [hm]; simp)).1⟩
    unfold codeCost
    rw [hm]
    rfl
theorem codeCost_ok {known : List SM} (hk : ∀ a ∈ known, a.ok) {ks : List Int} {zs : List Ins} (ha : okAll zs = true) (hv : (vVer zs ks known.length).2 = 0) : (codeCost known zs).ok := by
  obtain ⟨_, r, _, e, h⟩ := acc_all hk ha hv
  rw [← e]
  exact h
end Go.Proofs.YtppgknjpbfopjaaGreatDoor
namespace Go.Proofs.YtppgknjpbfopjaaGreatDoor
open Go.ChangeShapes Go.WideShapes Go.ChangeAt Go.RowKit
set_option linter.unusedVariables false
theorem lies_ins {w : World} {a : Option Addr} {zs : List Ins} (h : Lies w a (flat insC zs)) {j : Nat} (hj : j < zs.length) : ∃ b o : Nat, a = some ⟨b, o, none⟩ ∧ b < w.heap.size ∧ w.cell? ⟨b, o + j * 2, none⟩ = some (.int .i64 (zs.getD j (0, 0)).1) ∧ w.cell? ⟨b, o + j * 2 + 1, none⟩ = some (.int .i64 (zs.getD j (0, 0)).2) := by
  obtain ⟨b, o, e, hb, hc⟩ := h.open (by rw [flat_len insC_len]; omega)
  obtain ⟨h0, h1⟩ := ins_at hc hj
  exact ⟨b, o, e, hb, h0, h1⟩
theorem rgRun_take {known : List SM} {os : List RG} {zs : List Ins} {j : Nat} (hj : j < zs.length) {b : List RG} {top : RG} (h : rgRun known os (zs.take j) = b ++ [top]) : rgRun known os (zs.take (j + 1)) = rgStep known b top (zs.getD j (0, 0)) := by
  have e : zs.take (j + 1) = zs.take j ++ [zs.getD j (0, 0)] := by
    rw [List.take_succ_eq_append_getElem hj]
    simp [List.getD, hj]
  rw [e, rgRun_app, h, rgRun_one, rgRead_snoc]
def FoldPost (B : Nat) (os : List RG) (w : World) (e : Ending) (w' : World) : Prop := Below B w w' ∧ ∃ g n c, e = .returned (.slice (some ⟨g, 0, none⟩) n c) ∧ RRow B g n c os w'
set_option maxRecDepth 100000 in
set_option maxHeartbeats 2000000 in
theorem foldR_any (B : Nat) (ka : Option Addr) (kc : Nat) (known : List SM) (za : Option Addr) (zc : Nat) (zs : List Ins) (g nn c : Nat) (os : List RG) (w : World) (hB : B ≤ w.heap.size) (hG : 2 < B) (ht : OpTab w) (hk : Kn B ka known w) (hko : ∀ a ∈ known, a.ok)
    (hz : ∃ w0 : World, Lies w0 za (flat insC zs) ∧ w0.heap.size ≤ B ∧ Below B w0 w) (hn : zs.length ≤ 40) (hrow : RRow B g nn c os w) (hst : ∀ j, j < zs.length → StepOK known (rgRun known os (zs.take j)) (zs.getD j (0, 0))) :
    Calls Tryz.prog 187 #[.slice za zs.length zc, .slice (some ⟨g, 0, none⟩) nn c, .func (.func 189) #[.slice ka known.length kc] #[]] w (FoldPost B (rgRun known os zs) w) := by
  obtain ⟨w0, hz0, hz1, hz2⟩ := hz
  have HS : Hid (Below B w w ∧ ∃ g' n' c', Value.slice (some ⟨g, 0, none⟩) nn c = .slice (some ⟨g', 0, none⟩) n' c' ∧ RRow B g' n' c' (rgRun known os (zs.take 0)) w) := Lib.hid ⟨Below.refl _ _, g, nn, c, rfl, by simpa [rgRun] using hrow⟩
  have HZ : Hid (∀ wr, Below B w wr → ∀ j, j < zs.length → ∃ b o : Nat, za = some ⟨b, o, none⟩ ∧ b < wr.heap.size ∧ wr.cell? ⟨b, o + j * 2, none⟩ = some (.int .i64 (zs.getD j (0, 0)).1) ∧ wr.cell? ⟨b, o + j * 2 + 1, none⟩ = some (.int .i64 (zs.getD j (0, 0)).2)) :=
    Lib.hid (fun wr hb j hj => lies_ins (hz0.below (hz2.trans hb) hz1) hj)
  have HT := Lib.hid (fun wr (hb : Below B w wr) => optab_bel ht hb hG)
  have HK := Lib.hid (fun wr (hb : Below B w wr) => hk.bel hb)
  have HKO := Lib.hid hko
  have HST := Lib.hid hst
  have HTK : Hid (∀ j, j < zs.length → ∀ b top, rgRun known os (zs.take j) = b ++ [top] → rgRun known os (zs.take (j + 1)) = rgStep known b top (zs.getD j (0, 0))) := Lib.hid (fun j hj b top h => rgRun_take hj h)
  have HE : Hid (rgRun known os (zs.take zs.length) = rgRun known os zs) := Lib.hid (by rw [List.take_length])
  clear ht hk hko hz0 hz1 hz2 hst hrow
  have HL := Lib.hid (rfl : zs.length = zs.length)
  generalize hL : zs.length = n at *
  clear hL
  go_enter Tryz.func187, Tryz.ntmps187
  go_wp2
  go_loopw [1, 11] (fun s i wr => ∃ j : Nat, j ≤ n ∧ i = .int .i64 j ∧ Hid (Below B w wr ∧ ∃ g' n' c', s = .slice (some ⟨g', 0, none⟩) n' c' ∧ RRow B g' n' c' (rgRun known os (zs.take j)) wr)) (fun _ i _ => n - (intOf i).toNat)
  case atStart => exact ⟨0, Nat.zero_le _, rfl, HS⟩
  case round =>
    obtain ⟨j, hj, rfl, hs⟩ := hrel
    obtain ⟨hbl, g', n', c', rfl, hrow⟩ := hs.out
    by_cases hlt : j < n
    · obtain ⟨zb, zo, rfl, hzb, d0, d1⟩ := HZ.out wr hbl j hlt
      obtain ⟨b, top, k, he, hb4, hgood, hk1, h1, h2, h24, h23, h26⟩ := HST.out j hlt
      have HT2 := Lib.hid (HTK.out j hlt b top he)
      rw [he] at hrow
      have hnn := rr_len hrow
      simp at hnn
      subst hnn
      have hBr : B ≤ wr.heap.size := Nat.le_trans hB hbl.size
      generalize hx : zs.getD j (0, 0) = x at *
      obtain ⟨x1, y⟩ := x
      dsimp only at hk1 d0 d1 h24 h26
      subst hk1
      have hA := (Below.refl wr.heap.size wr).alloc (Nat.le_refl _) (inO (k : Int) y)
      have HA := Lib.hid (hbl.trans (hA.mono hBr))
      have HR := Lib.hid (read_any B ka known.length kc known g' b.length c' b top k y (wr.alloc (inO (k : Int) y)) (Nat.le_trans hBr hA.size) hG (HT.out _ HA.out) (HK.out _ HA.out) rfl HKO.out (own_bl hrow hA) hgood h1 h2 h24 h23 h26 hb4)
      clear hA hrow hgood h1 h2 h24 h23 h26 he hs hbl hx
      go_wp2_with fail
      refine Calls.mono HR.out ?_
      rintro e w2 ⟨hb2, g2, n2, c2, rfl, hr2⟩
      have HB2 := Lib.hid (HA.out.trans hb2)
      have HR2 := Lib.hid hr2
      clear hb2 hr2 d0 d1
      go_wp2
      go_roundw
      case rel => exact ⟨j + 1, by omega, by go_num, Lib.hid ⟨HB2.out, g2, n2, c2, rfl, by rw [HT2.out]; exact HR2.out⟩⟩
      case measure => simp [intOf]; omega
    · obtain rfl : j = n := by omega
      have HB2 := Lib.hid hbl
      have HR2 := Lib.hid hrow
      clear hbl hrow hs
      go_wp2
      go_ret
      exact ⟨HB2.out, g', n', c', rfl, by rw [← HE.out]; exact HR2.out⟩
end Go.Proofs.YtppgknjpbfopjaaGreatDoor
namespace Go.Proofs.YtppgknjpbfopjaaGreatDoor
open Go.ChangeShapes Go.WideShapes Go.ChangeAt Go.RowKit
set_option linter.unusedVariables false
/-- A row of summaries. -/
abbrev SRow (B n : Nat) (v : Value) (l : List SM) (w : World) : Prop := w.ownsRow B 81 5 v n (flat smC l)
theorem sr_len {w : World} {B n : Nat} {v : Value} {l : List SM} (h : SRow B n v l w) : l.length = n := by
  have := h.1
  rw [flat_len smC_len] at this
  omega
theorem sr_kn {w : World} {B kn kc : Nat} {ka : Option Addr} {l : List SM} (h : SRow B kn (.slice ka kn kc) l w) : Kn w.heap.size ka l w := by
  rcases lies_own h with h0 | ⟨b, o, e, hc⟩
  · cases l with
    | nil => exact .inl rfl
    | cons a t => rw [flat_cons] at h0; simp [smC] at h0
  · cases l with
    | nil => exact .inl rfl
    | cons a t => exact .inr ⟨b, o, e, cells_lt (hc 0 (.int .i64 a.t) (by rw [flat_cons]; rfl)), hc⟩
theorem sm_new_cells (w : World) (r : SM) : ∀ j u, (smC r)[j]? = some u → (w.alloc (smO r)).cell? ((⟨w.heap.size, 0, none⟩ : Addr).add j) = some u := fun j u hj =>
  (World.ownsRow_lit (base := w.heap.size) (e := 81) (size := 5) w (smC r).toArray 1 (Nat.le_refl _) (by unfold maxLen; omega) rfl).cells (g := w.heap.size) rfl j u (by simpa using hj)
theorem smC_one (r : SM) : ∀ u ∈ smC r, u.oneCell' = true := by
  intro u hu
  simp only [smC, List.mem_cons, List.not_mem_nil, or_false] at hu
  rcases hu with rfl | rfl | rfl | rfl | rfl <;> rfl
def NextPost (B : Nat) (l : List SM) (w : World) (e : Ending) (w' : World) : Prop := Below B w w' ∧ ∃ a n c, e = .returned (.slice a n c) ∧ SRow B n (.slice a n c) l w'
abbrev roO (za : Option Addr) (n zc : Nat) : Obj := .cells #[.slice za n zc] 108
set_option maxRecDepth 100000 in
set_option maxHeartbeats 2000000 in
theorem next_any (B : Nat) (ka : Option Addr) (kn kc : Nat) (known : List SM) (za : Option Addr) (zc : Nat) (zs : List Ins) (ks : List Int) (w : World) (hB : B ≤ w.heap.size) (ht : OpTab w) (hk : SRow B kn (.slice ka kn kc) known w) (hko : ∀ a ∈ known, a.ok) (hkn : kn ≤ 6)
    (hz : Lies w za (flat insC zs)) (hn : zs.length ≤ 40) (ha : okAll zs = true) (hv : (vVer zs ks known.length).2 = 0) :
    Calls Tryz.prog 152 #[.slice ka kn kc, .agg #[.slice za zs.length zc]] w (NextPost B (known ++ [codeCost known zs]) w) := by
  obtain ⟨hst, r, hr, hro, hrk⟩ := acc_all hko ha hv
  have hkl := sr_len hk
  have hA := sm_al w (roO za zs.length zc)
  have hwl : w.heap.size < (w.alloc (roO za zs.length zc)).heap.size := by simp
  have hKN := sr_kn hk
  have HF : Hid (∀ wn, Below (w.alloc (roO za zs.length zc)).drew.heap.size (w.alloc (roO za zs.length zc)).drew wn → Calls Tryz.prog 187 #[.slice za zs.length zc, .slice (some ⟨wn.heap.size, 0, none⟩) 1 1, .func (.func 189) #[.slice ka kn kc] #[]] (wn.alloc (rgO (rgNew (0, 0)))) fun e w3 => Below w.heap.size w w3 ∧ ∃ g c, e = .returned (.slice (some ⟨g, 0, none⟩) 1 c) ∧ RRow w.heap.size g 1 c [r] w3) := Lib.hid (fun wn hb => by
    have hb1 : Below w.heap.size w wn := (sm_dr hA).trans (hb.mono hA.size)
    have hb2 : Below w.heap.size w (wn.alloc (rgO (rgNew (0, 0)))) := hb1.alloc hb1.size _
    have hrow : RRow w.heap.size wn.heap.size 1 1 [rgNew (0, 0)] (wn.alloc (rgO (rgNew (0, 0)))) := World.ownsRow_lit (base := w.heap.size) (e := 217) (size := 12) wn (rgC (rgNew (0, 0))).toArray 1 hb1.size (by unfold maxLen; omega) rfl
    have := foldR_any w.heap.size ka kc known za zc zs wn.heap.size 1 1 [rgNew (0, 0)] (wn.alloc (rgO (rgNew (0, 0)))) hb2.size ht.lt (ht.below hb2 (Nat.le_refl _)) (hKN.bel hb2) hko ⟨w, hz, Nat.le_refl _, hb2⟩ hn hrow hst
    rw [hkl] at this
    refine this.mono ?_
    rintro e w3 ⟨h1, g, n, c, rfl, h2⟩
    rw [hr] at h2
    obtain rfl : 1 = n := rr_len h2
    exact ⟨hb2.trans h1, g, c, rfl, h2⟩)
  have HNW : Hid (∀ w3, Below w.heap.size w w3 → SRow B kn (.slice ka kn kc) known w3) := Lib.hid (fun w3 h => own_bl hk h)
  have HRO : Hid (flat smC (known ++ [codeCost known zs]) = flat smC known ++ smC r.own) := Lib.hid (by rw [flat_snoc, hro])
  have d0 : (w.alloc (roO za zs.length zc)).cell? ⟨w.heap.size, 0, none⟩ = some (.slice za zs.length zc) := cell_of_row _ _ 0 _ _ _ (heap_alloc_new w (roO za zs.length zc))
  obtain ⟨i0, hi, hz0, hz1, hz2⟩ := info_parts (show (Tryz.prog.info? 81).map (fun i => (i.zero, i.size, i.bytes)) = some (some (.agg #[.int .i64 0, .int .i64 0, .int .i64 0, .int .i64 0, .int .i64 0]), 5, 40) by kernel_rfl)
  have HI := Lib.hid (And.intro hi (And.intro hz0 (And.intro hz1 hz2)))
  clear hi hz0 hz1 hz2 hKN hst hr hro hrk hko hz ha hv hk ht hA hkl
  generalize codeCost known zs = CC at *
  generalize zs.length = n at *
  go_enter Tryz.func152, Tryz.ntmps152
  go_upto_region 1 with (fail)
  go_cut [5] (fun s5 wx => ∃ g c, s5 = .slice (some ⟨g, 0, none⟩) 1 c ∧ Hid (Below w.heap.size w wx ∧ RRow w.heap.size g 1 c [r] wx))
  case first =>
    have HD : Hid (∀ wn, Below (w.alloc (roO za n zc)).drew.heap.size (w.alloc (roO za n zc)).drew wn → wn.cell? ⟨w.heap.size, 0, none⟩ = some (.slice za n zc) ∧ w.heap.size < wn.heap.size) := Lib.hid (fun wn hb => ⟨(hb.cell (p := ⟨w.heap.size, 0, none⟩) (by show w.heap.size < (w.alloc (roO za n zc)).heap.size; exact hwl)).trans d0, Nat.lt_of_lt_of_le hwl hb.size⟩)
    have hmf : ∀ (fn : Fn) (first cap : Array Value) (w : World), (Instr.makeFunc fn first cap).run Tryz.prog w = .ok (.func fn first cap) w := fun _ _ _ _ => rfl
    go_region_with (first
      | (go_at_call 188; (with_reducible refine (newRegion_any _ _ _).mono ?_); rintro e wn ⟨rfl, hbn⟩; have dn := HD.out _ hbn; obtain ⟨dn, dz⟩ := dn)
      | (go_at_call 187; (with_reducible refine (HF.out _ hbn).mono ?_); rintro e w3 ⟨hb3, g3, c3, rfl, hr3⟩))
    all_goals
      have HR3 := Lib.hid (And.intro hb3 hr3)
      go_wp2_with fail
      go_meet
      exact ⟨g3, c3, rfl, HR3⟩
  case rest =>
    obtain ⟨g, c, rfl, hc⟩ := hcut
    have HC := hc
    have HS3 := Lib.hid (HNW.out _ hc.out.1)
    have hg := (rr_lt hc.out.2).2
    have hr0 := (rr_at (b := []) (t := []) hc.out.2).2.1
    simp only [List.length_nil, Nat.zero_mul, Nat.zero_add] at hr0
    obtain ⟨c2, c3, c4, c5, c6⟩ := hr0
    have hsz := hc.out.1.size
    clear hc HF d0
    go_wp2_with (at_builtin; (refine wpList_append_own _ rfl _ _ 133 rfl B 81 i0 _ 5 40 Tryz.underlying133 HI.out.1 HI.out.2.1 HI.out.2.2.1 HI.out.2.2.2 rfl (by decide) (.slice ka kn kc) kn _ rfl (HS3.out.alloc _) ⟨wc.heap.size, 0, none⟩ 1 1 (smC r.own) rfl rfl (sm_new_cells wc r.own) (smC_one r.own) (by unfold maxLen; omega) (by omega) (by simp; omega) ?_); intro v' w4 hown hgrow _)
    obtain ⟨g', c', rfl⟩ := own_some hown (by omega)
    go_ret
    have hb1 : Below B w (wc.alloc (smO r.own)) := (HC.out.1.mono hB).alloc (by omega) _
    exact ⟨hb1.grown hgrow (by simp; omega) (fun k hk => (HS3.out.lt k hk).1), _, kn + 1, c', rfl, by unfold SRow; rw [HRO.out]; exact hown⟩
end Go.Proofs.YtppgknjpbfopjaaGreatDoor
