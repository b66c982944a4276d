/- MatchOf of impl and of spec, and its exact law. -/
import Derived.Test.YtppgknjpbfopjaaGreatDoorInsRow
import Derived.Test.YtppgknjpbfopjaaGreatDoorVer
import Derived.IntWalk
import Derived.WalkSmall
import Derived.Deep.RegionWith
namespace Go.Proofs.YtppgknjpbfopjaaGreatDoor
open Go.ChangeShapes Go.WideShapes Go.ChangeAt Go.RowKit
/-- Structures counted from the structure itself on. -/
def mGo : List Ins → Int → Nat → Int → Option (Int × Int)
  | [], _, _, _ => none
  | x :: r, i, d, o =>
    if x.1 = 21 ∨ x.1 = 24 then mGo r (i + 1) (d + 1) o
    else if x.1 = 22 then mGo r (i + 1) d (if d = 1 then i else o)
    else if x.1 = 23 then (if d = 1 then some (o, i) else mGo r (i + 1) (d - 1) o)
    else mGo r (i + 1) d o
theorem mGo_eq : ∀ (l : List Ins) (i : Int) (d : Nat) (o : Int), mGo l i (d + 1) o = vMatchGo l i d o
  | [], _, _, _ => rfl
  | x :: r, i, d, o => by
    rw [mGo, vMatchGo.eq_def]
    dsimp only
    split
    · exact mGo_eq r (i + 1) (d + 1) o
    · split
      · rw [mGo_eq]; simp
      · split
        · cases d with
          | zero => rfl
          | succ d => rw [if_neg (by omega)]; exact mGo_eq r (i + 1) d o
        · exact mGo_eq r (i + 1) d o
theorem mGo_at {zs : List Ins} {k : Nat} (h : k < zs.length) (hx : (zs.getD k (0, 0)).1 = 21 ∨ (zs.getD k (0, 0)).1 = 24) : mGo (zs.drop k) k 0 0 = vMatch zs k := by
  have e : zs.getD k (0, 0) = zs[k] := by simp [List.getD, h]
  rw [e] at hx
  rw [List.drop_eq_getElem_cons h, mGo, if_pos hx, mGo_eq]
  rfl
def mRes (r : Option (Int × Int)) : Value := match r with | some x => .tuple #[.int .i64 x.1, .int .i64 x.2, .int .i64 0] | none => .tuple #[.int .i64 0, .int .i64 0, .int .i64 14]
def sRes (r : Option (Int × Int)) : Value := match r with | some x => .tuple #[.int .i64 x.1, .int .i64 x.2, .bool true] | none => .tuple #[.int .i64 0, .int .i64 0, .bool false]
theorem drop_x {zs : List Ins} {j : Nat} (h : j < zs.length) : zs.drop j = ((zs.getD j (0, 0)).1, (zs.getD j (0, 0)).2) :: zs.drop (j + 1) := by
  have e : zs.getD j (0, 0) = zs[j] := by simp [List.getD, h]
  rw [List.drop_eq_getElem_cons h, e]
theorem vGo_at {zs : List Ins} {k : Nat} : vMatchGo (zs.drop (k + 1)) ((k : Int) + 1) 0 0 = vMatch zs k := rfl
theorem l04Match_any (zs : List Ins) (a : Option Addr) (c k : Nat) (hk : k < zs.length) (hn : zs.length ≤ 4096) (w : World) (hz : Lies w a (flat insC zs)) :
    Calls Tryz.prog 147 #[.slice a zs.length c, .int .i64 k] w fun e w' => e = .returned (sRes (vMatch zs k)) ∧ w = w' := by
  have HV : Hid (vMatchGo (zs.drop (k + 1)) ((k + 1 : Nat) : Int) 0 0 = vMatch zs k) := Lib.hid (by rw [Int.natCast_add]; rfl)
  have Hz := Lib.hid hz
  clear hz
  generalize hV : vMatch zs k = V at *
  generalize hL : zs.length = n at *
  have HL := Lib.hid hL
  clear hL hV
  go_enter Tryz.func147, Tryz.ntmps147
  go_wp2
  go_loop [7, 8, 9] (fun d q i => ∃ (j dd : Nat) (o : Int), k + 1 ≤ j ∧ j ≤ n ∧ dd ≤ j ∧ i = .int .i64 j ∧ d = .int .i64 dd ∧ q = .int .i64 o ∧ Hid (vMatchGo (zs.drop j) j dd o = V)) (fun _ _ i => n - (intOf i).toNat)
  case atStart => exact ⟨k + 1, 0, 0, Nat.le_refl _, by omega, by omega, by go_num, rfl, rfl, HV⟩
  case round =>
    obtain ⟨j, dd, o, hkj, hjn, hdj, rfl, rfl, rfl, hm⟩ := hrel
    by_cases hlt : j < n
    · obtain ⟨b, p, rfl, hbl, hcs⟩ := Hz.out.open (by rw [flat_len insC_len, HL.out]; omega)
      obtain ⟨c0, c1⟩ := ins_at hcs (i := j) (by rw [HL.out]; exact hlt)
      have hdr := drop_x (zs := zs) (j := j) (by rw [HL.out]; exact hlt)
      have hmo := hm.out
      rw [hdr, vMatchGo.eq_def] at hmo
      clear hcs c1 hdr hm
      generalize (zs.getD j (0, 0)).1 = x at *
      dsimp only at hmo
      by_cases h1 : x = 21 ∨ x = 24
      · rw [if_pos h1] at hmo
        have HM := Lib.hid hmo
        clear hmo
        rcases h1 with rfl | rfl
        all_goals
          go_wp2
          go_round
          case rel => exact ⟨j + 1, dd + 1, o, by omega, by omega, by omega, by go_num, by go_num, rfl, Lib.hid (by rw [← HM.out, Int.natCast_add]; rfl)⟩
          case measure => simp [intOf]; omega
      · rw [if_neg h1] at hmo
        have n21 : (x == 21) = false := by rw [beq_eq_false_iff_ne]; intro e; exact h1 (.inl e)
        have n24 : (x == 24) = false := by rw [beq_eq_false_iff_ne]; intro e; exact h1 (.inr e)
        clear h1
        by_cases h2 : x = 22
        · subst h2
          rw [if_pos rfl] at hmo
          clear n21 n24
          by_cases h3 : dd = 0
          · subst h3
            rw [if_pos rfl] at hmo
            have HM := Lib.hid hmo
            clear hmo
            go_wp2
            go_round
            case rel => exact ⟨j + 1, 0, j, by omega, by omega, by omega, by go_num, rfl, rfl, Lib.hid (by rw [← HM.out, Int.natCast_add]; rfl)⟩
            case measure => simp [intOf]; omega
          · rw [if_neg h3] at hmo
            have HM := Lib.hid hmo
            have h3' : ((dd : Int) == 0) = false := by rw [beq_eq_false_iff_ne]; omega
            clear hmo
            go_wp2
            go_round
            case rel => exact ⟨j + 1, dd, o, by omega, by omega, by omega, by go_num, rfl, rfl, Lib.hid (by rw [← HM.out, Int.natCast_add]; rfl)⟩
            case measure => simp [intOf]; omega
        · rw [if_neg h2] at hmo
          have n22 : (x == 22) = false := by rw [beq_eq_false_iff_ne]; exact h2
          clear h2
          by_cases h3 : x = 23
          · subst h3
            rw [if_pos rfl] at hmo
            clear n21 n24 n22
            cases dd with
            | zero =>
              have HM : Hid (some (o, (j : Int)) = V) := Lib.hid hmo
              clear hmo
              go_wp2
              go_ret3
              exact ⟨by rw [← HM.out]; rfl, rfl⟩
            | succ dd =>
              have HM := Lib.hid hmo
              have h4' : (((dd + 1 : Nat) : Int) == 0) = false := by rw [beq_eq_false_iff_ne]; omega
              clear hmo
              go_wp2
              go_round
              case rel => exact ⟨j + 1, dd, o, by omega, by omega, by omega, by go_num, by go_num, rfl, Lib.hid (by rw [← HM.out, Int.natCast_add]; rfl)⟩
              case measure => simp [intOf]; omega
          · rw [if_neg h3] at hmo
            have n23 : (x == 23) = false := by rw [beq_eq_false_iff_ne]; exact h3
            have HM := Lib.hid hmo
            clear hmo h3
            go_wp2
            go_round
            case rel => exact ⟨j + 1, dd, o, by omega, by omega, by omega, by go_num, rfl, rfl, Lib.hid (by rw [← HM.out, Int.natCast_add]; rfl)⟩
            case measure => simp [intOf]; omega
    · obtain rfl : j = n := by omega
      have HM : Hid (V = none) := Lib.hid (by rw [← hm.out, List.drop_eq_nil_of_le (by rw [HL.out]; exact Nat.le_refl _)]; rfl)
      clear hm
      go_wp2
      go_ret3
      exact ⟨by rw [HM.out]; rfl, rfl⟩
/-- What MatchOf answers. -/
def matchF (zs : List Ins) (p : Int) : Value :=
  if 4096 < zs.length then .tuple #[.int .i64 0, .int .i64 0, .int .i64 2] else if 40 < zs.length then .tuple #[.int .i64 0, .int .i64 0, .int .i64 6]
  else if p < 0 ∨ (zs.length : Int) ≤ p then .tuple #[.int .i64 0, .int .i64 0, .int .i64 4]
  else if (zs.getD p.toNat (0, 0)).1 ≠ 21 ∧ (zs.getD p.toNat (0, 0)).1 ≠ 24 then .tuple #[.int .i64 0, .int .i64 0, .int .i64 10]
  else mRes (vMatch zs p.toNat)
end Go.Proofs.YtppgknjpbfopjaaGreatDoor
namespace Go.Proofs.YtppgknjpbfopjaaGreatDoor
open Go.ChangeShapes Go.WideShapes Go.ChangeAt Go.RowKit
theorem came_insM {W : World} {a : Option Addr} {n c : Nat} (h : Came Tryz.prog W 111 [.slice a n c]) : n ≤ maxLen ∧ n ≤ c ∧ ∃ zs : List (Int × Int), zs.length = n ∧ Lies W a (flat insC zs) :=
  lies_came insC insC_len (by decide) Tryz.underlying111 cLaw (fun es g => by
    obtain ⟨n, a, e, _, _⟩ := came_lawInstr (cs := es.toArray) (by simpa using g)
    exact ⟨(n, a), by have := congrArg Array.toList e; simpa [insC] using this⟩) h
theorem matchF_form (zs : List Ins) (p : Int) : ∃ x y z : Int, matchF zs p = .tuple #[.int .i64 x, .int .i64 y, .int .i64 z] := by
  unfold matchF mRes
  repeat' split
  all_goals exact ⟨_, _, _, rfl⟩
end Go.Proofs.YtppgknjpbfopjaaGreatDoor
