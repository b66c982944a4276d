/- impl's table of effects; an instruction's effect. -/
import Derived.Test.YtppgknjpbfopjaaGreatDoorRows
import Derived.Test.YtppgknjpbfopjaaGreatDoorCardKit
import Derived.Test.YtppgknjpbfopjaaGreatDoorRow
import Derived.Test.YtppgknjpbfopjaaGreatDoorFb
import Derived.Test.YtppgknjpbfopjaaGreatDoorRouts
import Derived.Test.YtppgknjpbfopjaaGreatDoorInsOK
import Derived.Test.YtppgknjpbfopjaaGreatDoorVer
import Derived.WalkLawsBesides
import Derived.WalkSmall
import Derived.WalkSpells
import Derived.IntWalk
namespace Go.Proofs.YtppgknjpbfopjaaGreatDoor
open Go.ChangeShapes Go.WideShapes Go.ChangeAt Go.RowKit
set_option linter.unusedVariables false
def namesB (o : Int) : Bool := o == 19 || o == 20
theorem namesBlock_any (o : Int) (w : World) : Calls Tryz.prog 241 #[.int .i64 o] w fun e w' => e = .returned (.bool (namesB o)) ∧ w = w' := by
  go_enter Tryz.func241, Tryz.ntmps241
  go_wp2
  all_goals (go_ret; refine ⟨fb_rb ?_, rfl⟩; simp_all [namesB])
theorem namesBlock_is {o : Int} {b : Bool} (h : namesB o = b) (w : World) : Calls Tryz.prog 241 #[.int .i64 o] w fun e w' => e = .returned (.bool b) ∧ w = w' := h ▸ namesBlock_any o w
/-- A row of a table: two words. -/
def rowD2 {H : Type} (r : ByteArray × ByteArray) : DataW H := .agg [.lit (.string r.1.data.toList), .lit (.string r.2.data.toList)]
theorem win_at2 {cs : List Value} {a j : Nat} {v : Value} (hj : j < 2) (h : ((List.take 2 (List.drop a cs)).drop j).take 1 = [v]) : cs[a + j]? = some v := by
  have := congrArg (·[0]?) h
  simpa [List.getElem?_take, List.getElem?_drop, hj] using this
theorem cells_of_rows2 {H : Type} {enc : TypeId × Value → H} {P : Program} {w : World} {base : Nat} {sp : Nat → Bool} {held : Bool} {fuel : Nat} {t e : TypeId} {n : Nat} {cs : List Value} {rows : List (ByteArray × ByteArray)} {p : List MemPlace} {f0 f1 : Field}
    (ht : P.underlying t = some (.array n e)) (he : P.underlying e = some (.struct #[f0, f1])) (hce : P.cellsOf e = 2)
    (h0 : P.underlying f0.type = some .string) (h1 : P.underlying f1.type = some .string) (o : f0.offset = 0 ∧ f1.offset = 1) (c : P.cellsOf f0.type = 1 ∧ P.cellsOf f1.type = 1)
    (h : DataW.trod enc P w base sp held fuel t cs = some (.agg (rows.map rowD2), p)) (i : Nat) (r : ByteArray × ByteArray) (hr : rows[i]? = some r) :
    cs[i * 2]? = some (.string r.1) ∧ cs[i * 2 + 1]? = some (.string r.2) := by
  obtain ⟨xs, m, rfl, hx, hcl, hxl, hi⟩ := DataW.trod_array ht h
  have hxs : xs.map (·.1) = rows.map (rowD2 (H := H)) := by
    have := congrArg Prod.fst hx
    simpa using this.symm
  have hil : i < rows.length := (List.getElem?_eq_some_iff.1 hr).1
  have hln : rows.length = n := by
    have := congrArg List.length hxs
    simp at this
    omega
  have hw := hi i (by omega)
  rw [hce, List.getElem?_eq_getElem (by omega)] at hw
  have hy : (xs[i]'(by omega)).1 = rowD2 r := by
    have := congrArg (·[i]?) hxs
    simpa [List.getElem?_map, hr, List.getElem?_eq_getElem (show i < xs.length by omega)] using this
  obtain ⟨y0, y1, q, hyy, _, g0, g1⟩ := trod_struct2 he hw
  rw [hyy] at hy
  simp only [rowD2, DataW.agg.injEq, List.cons.injEq, and_true] at hy
  obtain ⟨a0, a1⟩ := hy
  rw [o.1, c.1] at g0
  rw [o.2, c.2] at g1
  obtain ⟨s, e0, rfl, _⟩ := DataW.trod_string h0 g0
  obtain ⟨s1, e1, rfl, _⟩ := DataW.trod_string h1 g1
  simp only [DataW.lit.injEq, Lit.string.injEq] at a0 a1
  obtain rfl := str_eq a0
  obtain rfl := str_eq a1
  exact ⟨win_at2 (a := i * 2) (j := 0) (by omega) e0, win_at2 (a := i * 2) (j := 1) (by omega) e1⟩
theorem rows2_of_head {P : Program} {W : World} {name : String} {rows : List (ByteArray × ByteArray)} {rest : List (String × DataW Unit)} {g : Nat} {t e : TypeId} {n : Nat} {f0 f1 : Field}
    (hg : P.globalNamed name = some g) (hty : (P.globals[g]?).map (·.type) = some t) (ht : P.underlying t = some (.array n e)) (he : P.underlying e = some (.struct #[f0, f1])) (hce : P.cellsOf e = 2)
    (h0 : P.underlying f0.type = some .string) (h1 : P.underlying f1.type = some .string) (o : f0.offset = 0 ∧ f1.offset = 1) (c : P.cellsOf f0.type = 1 ∧ P.cellsOf f1.type = 1)
    (h : laidMet P ((name, .agg (rows.map rowD2)) :: rest) W) (i : Nat) (r : ByteArray × ByteArray) (hr : rows[i]? = some r) :
    W.cell? ⟨g, i * 2, none⟩ = some (.string r.1) ∧ W.cell? ⟨g, i * 2 + 1, none⟩ = some (.string r.2) := by
  obtain ⟨ps, ⟨g', t', cs, fuel, p, q, hg', ht', hvar, hd, _, _⟩, _⟩ := h
  obtain rfl := Option.some.inj (hg.symm.trans hg')
  obtain rfl := Option.some.inj (hty.symm.trans ht')
  have := cells_of_rows2 ht he hce h0 h1 o c hd i r hr
  simp only [World.var?_cell hg hvar]
  simpa using this
def effRows : List (ByteArray × ByteArray) := [(⟨#[]⟩, ⟨#[]⟩), (⟨#[]⟩, ⟨#[105]⟩), (⟨#[]⟩, ⟨#[98]⟩), (⟨#[]⟩, ⟨#[105]⟩), (⟨#[105]⟩, ⟨#[]⟩), (⟨#[]⟩, ⟨#[98]⟩), (⟨#[98]⟩, ⟨#[]⟩), (⟨#[]⟩, ⟨#[98]⟩), (⟨#[98]⟩, ⟨#[]⟩), (⟨#[105, 105]⟩, ⟨#[105]⟩), (⟨#[105, 105]⟩, ⟨#[105]⟩), (⟨#[105, 105]⟩, ⟨#[105]⟩), (⟨#[105, 105]⟩, ⟨#[105]⟩), (⟨#[105, 105]⟩, ⟨#[98]⟩), (⟨#[105, 105]⟩, ⟨#[98]⟩), (⟨#[98, 98]⟩, ⟨#[98]⟩), (⟨#[98, 98]⟩, ⟨#[98]⟩), (⟨#[98]⟩, ⟨#[98]⟩), (⟨#[98, 105, 105]⟩, ⟨#[105]⟩), (⟨#[]⟩, ⟨#[98]⟩), (⟨#[]⟩, ⟨#[105]⟩), (⟨#[98]⟩, ⟨#[]⟩), (⟨#[]⟩, ⟨#[]⟩), (⟨#[]⟩, ⟨#[]⟩), (⟨#[]⟩, ⟨#[]⟩), (⟨#[]⟩, ⟨#[]⟩), (⟨#[]⟩, ⟨#[]⟩)]
def effT (k : Nat) : ByteArray := (effRows.getD k (⟨#[]⟩, ⟨#[]⟩)).1
def effG (k : Nat) : ByteArray := (effRows.getD k (⟨#[]⟩, ⟨#[]⟩)).2
/-- The table of the effects, as it lies in memory. -/
def EffTab (w : World) : Prop := ∀ k, k < 27 → w.cell? ⟨3, k * 2, none⟩ = some (.string (effT k)) ∧ w.cell? ⟨3, k * 2 + 1, none⟩ = some (.string (effG k))
theorem EffTab.lt {w : World} (h : EffTab w) : 3 < w.heap.size := by
  have hc := (h 0 (by omega)).1
  rcases Nat.lt_or_ge 3 w.heap.size with h' | h'
  · exact h'
  · simp [World.cell?, Array.getElem?_eq_none h'] at hc
theorem EffTab.below {B : Nat} {w w' : World} (h : EffTab w) (g : Below B w w') (hB : w.heap.size ≤ B) : EffTab w' := fun k hk => by
  have hlt : 3 < B := Nat.lt_of_lt_of_le h.lt hB
  obtain ⟨c0, c1⟩ := h k hk
  exact ⟨(g.cell (p := ⟨3, k * 2, none⟩) hlt).trans c0, (g.cell (p := ⟨3, k * 2 + 1, none⟩) hlt).trans c1⟩
theorem gEff : Tryz.prog.globalNamed "loop.example/g00684/impl.effects" = some 3 := by kernel_rfl
theorem tEff : (Tryz.prog.globals[3]?).map (·.type) = some 283 := by kernel_rfl
theorem cEff : Tryz.prog.cellsOf 279 = 2 := by kernel_rfl
theorem cEffS : Tryz.prog.cellsOf 9 = 1 := by kernel_rfl
theorem effTab_of {W : World} (h : laidMetH Tryz.prog [("loop.example/g00684/impl.effects", Rows.laid_loop_example_g00684_impl_effects)] W) : EffTab W := by
  have h' : laidMet Tryz.prog (("loop.example/g00684/impl.effects", .agg (effRows.map rowD2)) :: []) W := h
  intro k hk
  have hl : k < effRows.length := hk
  have := rows2_of_head gEff tEff Tryz.underlying283 Tryz.underlying279 cEff Tryz.underlying9 Tryz.underlying9 ⟨rfl, rfl⟩ ⟨cEffS, cEffS⟩ h' k effRows[k] (List.getElem?_eq_getElem hl)
  simpa [effT, effG, List.getD, hl] using this
theorem effTab_two {w : World} (ht : EffTab w) (O O' : Obj) : EffTab ((w.alloc O).alloc O') :=
  ht.below (B := w.heap.size) (((Below.refl w.heap.size w).alloc (Nat.le_refl _) O).alloc (by simp) O') (Nat.le_refl _)
theorem effectOf_plain (k : Nat) (y : Int) (a : Option Addr) (n c : Nat) (hk : k < 27) (h19 : ((k : Int) == 19) = false) (w : World) (ht : EffTab w) :
    Calls Tryz.prog 237 #[.agg #[.int .i64 k, .int .i64 y], .slice a n c] w fun e w' => e = .returned (.agg #[.string (effT k), .string (effG k)]) ∧ Below w.heap.size w w' := by
  obtain ⟨c0, c1⟩ := effTab_two ht (.cells #[.int .i64 k, .int .i64 y] 170) (.cells #[.string ⟨#[]⟩, .string ⟨#[]⟩] 279) k hk
  clear ht
  generalize effT k = T at *
  generalize effG k = G at *
  go_enter Tryz.func237, Tryz.ntmps237
  go_wp2
  refine bodyPost_ret (v := .agg #[.string T, .string G]) (by simp [results, Tryz.results237, go_sem]) rfl ⟨rfl, ?_⟩
  exact (((Below.refl w.heap.size w).alloc (Nat.le_refl _) _).alloc (by simp) _).alloc (by simp; omega) _
theorem effectOf_block (b o n c : Nat) (ks : List Int) (y : Nat) (hy : y < n) (w : World) (ht : EffTab w) (hf : FbTab w) (hb : b < w.heap.size) (hk : w.cell? ⟨b, o + y, none⟩ = some (.int .i64 (ks.getD y 0))) :
    Calls Tryz.prog 237 #[.agg #[.int .i64 19, .int .i64 y], .slice (some ⟨b, o, none⟩) n c] w fun e w' => e = .returned (.agg #[.string (takesF (ks.getD y 0)), .string ⟨#[98]⟩]) ∧ Below w.heap.size w w' := by
  obtain ⟨c0, c1⟩ := effTab_two ht (.cells #[.int .i64 19, .int .i64 y] 170) (.cells #[.string ⟨#[]⟩, .string ⟨#[]⟩] 279) 19 (by omega)
  have e0 : effT 19 = ⟨#[]⟩ := rfl
  have e1 : effG 19 = ⟨#[98]⟩ := rfl
  rw [e0] at c0
  rw [e1] at c1
  have hB : ∀ O O' O'' : Obj, Below w.heap.size w (((w.alloc O).alloc O').alloc O'') := fun O O' O'' => (((Below.refl w.heap.size w).alloc (Nat.le_refl _) O).alloc (by simp) O').alloc (by simp; omega) O''
  have HF : Hid (∀ (O O' O'' : Obj), FbTab (((w.alloc O).alloc O').alloc O'')) := Lib.hid (fun O O' O'' => hf.below (hB O O' O'') (Nat.le_refl _))
  have d1 : ∀ O O' O'' : Obj, (((w.alloc O).alloc O').alloc O'').cell? ⟨b, o + y, none⟩ = some (.int .i64 (ks.getD y 0)) := fun O O' O'' => ((hB O O' O'').cell (p := ⟨b, o + y, none⟩) hb).trans hk
  have HB := Lib.hid hB
  clear ht hf e0 e1 hB hk hb
  generalize ks.getD y 0 = z at *
  go_enter Tryz.func237, Tryz.ntmps237
  go_wp2_with fail
  refine Calls.mono (takesOf_any z _ (by exact HF.out _ _ _)) ?_
  rintro e w' ⟨rfl, rfl⟩
  go_wp2
  all_goals
    refine bodyPost_ret (v := .agg #[.string (takesF z), .string ⟨#[98]⟩]) (by simp [results, Tryz.results237, go_sem]) rfl ⟨rfl, ?_⟩
    exact HB.out _ _ _
def vFind (ks : List Int) (r : Int) (x : Ins) : Int := if (x.1 = 19 ∨ x.1 = 20) ∧ (ks.length : Int) ≤ x.2 then 5 else if x.1 = 26 ∧ r ≤ x.2 then 15 else 0
theorem effT_sign : ∀ k : Nat, k < 27 → 1 ≤ k → k ≠ 19 → ∀ (ks : List Int) (y : Int), (effT k).data.toList = (vSign ks ((k : Int), y)).1 ∧ (effG k).data.toList = (vSign ks ((k : Int), y)).2 := by
  intro k hk h1 h19 ks y
  have : k = 1 ∨ k = 2 ∨ k = 3 ∨ k = 4 ∨ k = 5 ∨ k = 6 ∨ k = 7 ∨ k = 8 ∨ k = 9 ∨ k = 10 ∨ k = 11 ∨ k = 12 ∨ k = 13 ∨ k = 14 ∨ k = 15 ∨ k = 16 ∨ k = 17 ∨ k = 18 ∨ k = 20 ∨ k = 21 ∨ k = 22 ∨ k = 23 ∨ k = 24 ∨ k = 25 ∨ k = 26 := by omega
  rcases this with rfl | rfl | rfl | rfl | rfl | rfl | rfl | rfl | rfl | rfl | rfl | rfl | rfl | rfl | rfl | rfl | rfl | rfl | rfl | rfl | rfl | rfl | rfl | rfl | rfl <;> exact ⟨rfl, rfl⟩
theorem tkL_len3 (k : Int) : (tkL k).length ≤ 3 := by
  unfold tkL
  repeat' split
  all_goals decide
theorem sign_len (ks : List Int) (x : Ins) : (vSign ks x).1.length ≤ 3 ∧ (vSign ks x).2.length ≤ 1 := by
  unfold vSign
  repeat' split
  all_goals refine ⟨?_, ?_⟩
  all_goals first | exact tkL_len3 _ | decide | exact Nat.le_refl _
theorem effectOf_any {k : Option Addr} {kc : Nat} {ks : List Int} {r : Int} {w : World} (x y : Int) (hx : okB x y = true) (hf : vFind ks r (x, y) = 0)
    (ht : EffTab w) (hfb : FbTab w) (hk : Lies w k (kC ks)) (hkv : ∀ z ∈ ks, kindB z = true) :
    Calls Tryz.prog 237 #[.agg #[.int .i64 x, .int .i64 y], .slice k ks.length kc] w fun e w' => Below w.heap.size w w' ∧
      ∃ T G : ByteArray, e = .returned (.agg #[.string T, .string G]) ∧ T.data.toList = (vSign ks (x, y)).1 ∧ G.data.toList = (vSign ks (x, y)).2 := by
  obtain ⟨q, rfl, q1, q2, q3, q4⟩ := okB_nat hx
  by_cases h19 : q = 19
  · subst h19
    have hy0 : 0 ≤ y := by have : opLo 19 = 0 := rfl; omega
    obtain ⟨m, rfl⟩ : ∃ m : Nat, y = m := ⟨y.toNat, by omega⟩
    have hm : m < ks.length := by
      unfold vFind at hf
      by_cases hh : (ks.length : Int) ≤ (m : Int)
      · rw [if_pos ⟨.inl rfl, hh⟩] at hf
        exact absurd hf (by decide)
      · omega
    obtain ⟨b, o, rfl, hbl, hcs⟩ := hk.open (by rw [kC_len]; omega)
    have hc := hcs m (.int .i64 (ks.getD m 0)) (by simp [kC, List.getD, hm])
    refine (effectOf_block b o ks.length kc ks m hm w ht hfb hbl hc).mono fun e w' ⟨he, hb⟩ => ⟨hb, _, _, he, ?_, rfl⟩
    rw [takesF_list _ (hkv _ (by simp [List.getD, hm]))]
    show tkL (ks.getD m 0) = _
    simp [vSign]
  · obtain ⟨e1, e2⟩ := effT_sign q (by omega) q1 h19 ks y
    exact (effectOf_plain q y k ks.length kc (by omega) (beq_eq_false_iff_ne.2 (by omega)) w ht).mono fun e w' ⟨he, hb⟩ => ⟨hb, _, _, he, e1, e2⟩
end Go.Proofs.YtppgknjpbfopjaaGreatDoor
