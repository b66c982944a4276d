/- Rows of bytes that the call itself makes, and their conversion to a string: plain facts over any program. -/
import Derived.WalkKit
import Derived.ProofKit
import Derived.OwnWalk
import Derived.Below
import Derived.Laws.AppendOwn
import Derived.Laws.OwnMore
import Derived.Laws.IdiomStrings
import Derived.Lib.BufferRead
import Derived.PlainAid
import Derived.IntWalk
import Derived.Laws.BitsAllLaws
import Derived.Deep.RegionLaw
import Derived.Test.YtgbnoaclklbjbaaRows
import Derived.OpenShut
import Derived.Handy
import Derived.WalkSmall
import Derived.WalkSpells
import Derived.Laws.NewBlocks
import Derived.Lib.Hide
import Derived.Lib.ItoaLen
import Derived.Deep.RegionWith
import Derived.Outline
namespace Go.Proofs.Ytgbnoaclklbjbaa
open Go.RowKit Go.PlainAid
/-- The cells of a row of bytes. -/
def u8s (l : List UInt8) : List Value := l.map fun b => .int .u8 (b.toNat : Int)
theorem u8s_len (l : List UInt8) : (u8s l).length = l.length := by simp [u8s]
theorem u8s_snoc (l : List UInt8) (b : UInt8) : u8s l ++ [.int .u8 (b.toNat : Int)] = u8s (l ++ [b]) := by simp [u8s]
theorem u8s_snoc2 (l : List UInt8) (b c : UInt8) : u8s l ++ [.int .u8 (b.toNat : Int), .int .u8 (c.toNat : Int)] = u8s (l ++ [b, c]) := by simp [u8s]
theorem own_str {P : Program} {w : World} {B n : Nat} {v : Value} {l : List UInt8} (src dst e : TypeId) (hs : P.underlying src = some (.slice e)) (he : P.underlying e = some (.int .u8)) (hd : P.underlying dst = some .string)
    (h : w.ownsRow B e 1 v n (u8s l)) : (convert src dst v).run P w = .ok (.string ⟨l.toArray⟩) w := by
  have hn : l.length = n := by have := h.1; rw [u8s_len] at this; omega
  rcases h.2 with ⟨rfl, h0⟩ | ⟨g, cap, cur, rfl, _⟩
  · have hl : l = [] := List.eq_nil_of_length_eq_zero (by omega)
    subst hl
    have := Lib.run_convert_nil_bytes (P := P) w src dst e 0 hs he hd
    simpa using this
  · have := run_convert_bytes_back (P := P) w src dst e ⟨g, 0, none⟩ cap l hs he hd (fun j hj => h.cells (g := g) rfl j _ (by simp [u8s, hj]))
    rw [hn] at this
    exact this
theorem grown_of_below {w w' : World} (h : Below w.heap.size w w') : Below w.heap.size w w' := h
/-- append to a row of the call's own, as one step of a region that draws. -/
theorem step_append_own {P : Program} {ops : Array Oper} {o : Oper} {a : Act} {w : World} {K : Act → World → Prop} {Q : Exit → Act → World → Prop} {E : Prop} (hgd : o.guard = none) (s x : Operand) (t : TypeId)
    (ho : o.op = .call { callee := .builtin .append, args := #[s, x], argTypes := #[t, t] })
    (base : Nat) (e : TypeId) (i : TypeInfo) (z : Value) (size bytes : Nat) (ht : P.underlying t = some (.slice e)) (hi : P.info? e = some i) (hz : i.zero = some z)
    (hsize : i.size = size) (hby : i.bytes = bytes) (hzs : z.cells.size = size) (hsz : 0 < size)
    (v : Value) (n : Nat) (xs : List Value) (hs : a.eval s = v) (hown : w.ownsRow base e size v n xs)
    (ad : Addr) (m c : Nat) (news : List Value) (hx : a.eval x = .slice (some ad) m c) (hl : news.length = m * size) (hnews : ∀ j u, news[j]? = some u → w.cell? (ad.add j) = some u) (h1 : ∀ u ∈ news, u.oneCell' = true)
    (h63 : n + m ≤ maxLen) (hbytes : (n + m) * bytes ≤ 140737488355328) (hbase : base ≤ w.heap.size)
    (h : ∀ v' w', w'.ownsRow base e size v' (n + m) (xs ++ news) → w.grownBy w' v.ownBlock → (v' = .slice none 0 0 ↔ v = .slice none 0 0 ∧ m = 0) → K (a.put o.dst v') w') :
    if Region.wanted o (yielded ops a.tmps) = true then Oper.wp P o a w K Q else E := by
  have hw : Region.wanted o (yielded ops a.tmps) = true := by simp [Region.wanted, hgd]
  rw [if_pos hw]
  exact wp_append_own w s x t ho base e i z size bytes ht hi hz hsize hby hzs hsz v n xs hs hown ad m c news hx hl hnews h1 h63 hbytes hbase h
/-- A hexadecimal digit. -/
def hexD (n : Nat) : UInt8 := UInt8.ofNat (if n < 10 then 48 + n else 87 + n)
theorem hexD_at : ∀ q : Nat, q < 16 → ∀ h, ((⟨#[48, 49, 50, 51, 52, 53, 54, 55, 56, 57, 97, 98, 99, 100, 101, 102]⟩ : ByteArray)[q]'h) = hexD q := by decide
theorem u8_and15 (b : Int) (h0 : 0 ≤ b) (h1 : b ≤ 255) : bits .and .u8 b 15 = ((b.toNat % 16 : Nat) : Int) := by
  rw [u8_and b 15 h0 (by omega) (by omega) (by omega)]
  exact congrArg _ (nat_mask4 _)
/-- The digits of the first k bytes. -/
def hexTo (s : ByteArray) : Nat → List UInt8
  | 0 => []
  | k + 1 => hexTo s k ++ [hexD ((bt s k).toNat / 16), hexD ((bt s k).toNat % 16)]
theorem hexTo_len (s : ByteArray) (k : Nat) : (hexTo s k).length = 2 * k := by
  induction k with
  | zero => rfl
  | succ k ih => simp [hexTo, ih]; omega
end Go.Proofs.Ytgbnoaclklbjbaa
namespace Go.Proofs.Ytgbnoaclklbjbaa
open Go.ChangeShapes Go.WideShapes Go.ChangeAt Go.RowKit
theorem below_from {B C : Nat} {w w1 : World} {n : Nat} (hb : Below C (w.drewN n) w1) (h : B ≤ C) : Below B w w1 := have g := hb.mono h; ⟨g.os, g.tape, g.output, g.size, g.block⟩
theorem dcell {W w1 : World} (hb : Below W.heap.size W w1) : (∀ b o, b < W.heap.size → w1.cell? ⟨b, o, none⟩ = W.cell? ⟨b, o, none⟩) := fun b o h => hb.cell (p := ⟨b, o, none⟩) h
theorem one_str (b : Nat) (z : Int) (w1 : World) (h0 : 0 ≤ z) (h1 : z ≤ 255) (hc : w1.cell? ⟨b, 0, none⟩ = some (.int .u8 z)) : (convert 55 9 (.slice (some ⟨b, 0, none⟩) 1 1)).run Try.prog w1 = .ok (.string ⟨#[UInt8.ofNat z.toNat]⟩) w1 := by
  have := run_convert_bytes_back (P := Try.prog) w1 55 9 5 ⟨b, 0, none⟩ 1 [UInt8.ofNat z.toNat] Try.underlying55 Try.underlying5 Try.underlying9 (fun j hj => by
    have : j = 0 := by simp at hj; omega
    subst this
    rw [show ((⟨b, 0, none⟩ : Addr).add 0) = ⟨b, 0, none⟩ from rfl, hc]
    simp
    omega)
  simpa using this
theorem ret_s2 {a b : List UInt8} (h : a = b) : Ending.returned (.string ⟨a.toArray⟩) = .returned (.string ⟨b.toArray⟩) := by rw [h]
end Go.Proofs.Ytgbnoaclklbjbaa
