/- What a whole accepted code costs, by spec's l05Part. -/
import Derived.Test.YtnehaidkhpjpbaaDoorPart
import Derived.Test.YtnehaidkhpjpbaaDoorAcc
namespace Go.Proofs.YtnehaidkhpjpbaaDoor
theorem part_any (za : Option Addr) (zc : Nat) (zs : List Ins) (ka : Option Addr) (kn kc : Nat) (known : List SM) (hkl : known.length = kn) (hko : ∀ a ∈ known, a.ok) (hn : zs.length ≤ 40)
    (hok : ∀ j, j < zs.length → okB (zs.getD j (0, 0)).1 (zs.getD j (0, 0)).2 = true) (hcl : ∀ j, j < zs.length → (zs.getD j (0, 0)).1 = 26 → 0 ≤ (zs.getD j (0, 0)).2 ∧ (zs.getD j (0, 0)).2 < kn) :
    ∀ (m : Nat) (ts : List St) (a c : List Ins), (flL ts).length ≤ m → zs = a ++ flL ts ++ c → plL ts → ∀ w, Lies w za (flat insC zs) → Lies w ka (flat smS known) →
      PartC za zs.length zc ka kn kc (a.length : Int) ((a.length : Int) + (flL ts).length) (costL known ts (one 0 false)) w
  | 0, ts, a, c, hl, hz, hp, w, hw, hkw => part_step za zc zs ka kn kc known hkl hko hn hok hcl a c ts hz hp (Lib.hid (fun _ _ _ _ _ hlt => by omega)) w hw hkw
  | m + 1, ts, a, c, hl, hz, hp, w, hw, hkw => part_step za zc zs ka kn kc known hkl hko hn hok hcl a c ts hz hp
      (Lib.hid (fun ts' a' c' hz' hp' hlt w' hw' hkw' => part_any za zc zs ka kn kc known hkl hko hn hok hcl m ts' a' c' (by omega) hz' hp' w' hw' hkw')) w hw hkw
theorem okAll_at {zs : List Ins} (ha : okAll zs = true) {j : Nat} (hj : j < zs.length) : okB (zs.getD j (0, 0)).1 (zs.getD j (0, 0)).2 = true := by
  unfold okAll at ha
  rw [List.all_eq_true] at ha
  have hm : zs.getD j (0, 0) ∈ zs := by
    rw [show zs.getD j (0, 0) = zs[j] by simp [List.getD, hj]]
    exact List.getElem_mem hj
  exact ha _ hm
theorem part_whole (za : Option Addr) (zc : Nat) (zs : List Ins) (ka : Option Addr) (kc : Nat) (known : List SM) (hko : ∀ a ∈ known, a.ok) (hn : zs.length ≤ 40) {ks : List Int} (ha : okAll zs = true) (hv : (vVer zs ks known.length).2 = 0)
    (w : World) (hw : Lies w za (flat insC zs)) (hkw : Lies w ka (flat smS known)) : PartC za zs.length zc ka known.length kc 0 zs.length (codeCost known zs) w := by
  obtain ⟨ts, hf, hp⟩ := tree_of (okAll_vAll ha) hv
  have hc : ∀ j, j < zs.length → (zs.getD j (0, 0)).1 = 26 → 0 ≤ (zs.getD j (0, 0)).2 ∧ (zs.getD j (0, 0)).2 < known.length := fun j hj h26 => by
    obtain ⟨b, top, k, -, -, -, hk, -, -, -, -, h⟩ := (acc_all hko ha hv).1 j hj
    exact h (by omega)
  have h := part_any za zc zs ka known.length kc known rfl hko hn (fun j hj => okAll_at ha hj) hc zs.length ts [] [] (by rw [hf]; exact Nat.le_refl _) (by rw [hf]; simp) hp w hw hkw
  rw [← codeCost_tree hko hp, hf] at h
  rw [show ((([] : List Ins).length : Nat) : Int) = 0 from rfl, Int.zero_add] at h
  exact h
end Go.Proofs.YtnehaidkhpjpbaaDoor
