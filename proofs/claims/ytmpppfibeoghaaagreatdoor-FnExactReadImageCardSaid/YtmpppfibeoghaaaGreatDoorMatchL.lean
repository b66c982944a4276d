/- MatchOf of spec; the exact law of MatchOf. -/
import Derived.Test.YtmpppfibeoghaaaGreatDoorMatch
namespace Go.Proofs.YtmpppfibeoghaaaGreatDoor
open Go.ChangeShapes Go.WideShapes Go.ChangeAt Go.RowKit
theorem came_insM {W : World} {a : Option Addr} {n c : Nat} (h : Came Tryz.prog W 130 [.slice a n c]) : n ≤ maxLen ∧ n ≤ c ∧ ∃ zs : List (Int × Int), zs.length = n ∧ Lies W a (flat insC zs) :=
  lies_came insC insC_len (by decide) Tryz.underlying130 cLaw (fun es g => by
    obtain ⟨n, a, e, _, _⟩ := came_lawInstr (cs := es.toArray) (by simpa using g)
    exact ⟨(n, a), by have := congrArg Array.toList e; simpa [insC] using this⟩) h
theorem matchF_form (zs : List Ins) (p : Int) : ∃ x y z : Int, matchF zs p = .tuple #[.int .i64 x, .int .i64 y, .int .i64 z] := by
  unfold matchF mRes
  repeat' split
  all_goals exact ⟨_, _, _, rfl⟩
end Go.Proofs.YtmpppfibeoghaaaGreatDoor
