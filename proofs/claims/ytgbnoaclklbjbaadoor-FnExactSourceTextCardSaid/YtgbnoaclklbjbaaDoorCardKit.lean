/- Named variables read again in a world in which nothing that was there has changed; a table of strings, cell for cell. -/
import Derived.WalkKit
import Derived.ProofKit
import Derived.OpenShut
import Derived.Carry
import Derived.Below
import Derived.WalkSmall
import Derived.Lib.LaidTab
import Derived.Stop.LaidErr
import Derived.LaidSub
import Derived.Lib.SmallJoins
namespace Go.Proofs.YtgbnoaclklbjbaaDoor
open Go.ChangeShapes Go.WideShapes Go.ChangeAt Go.RowKit
theorem TrodVars_below {H : Type} {enc : TypeId × Value → H} {P : Program} (hl : laidOutB P = true) {W W' : World} (hb : Below W.heap.size W W') :
    ∀ {ns : List String} {ds : List (DataW H)} {ps : List MemPlace}, (ns.all fun n => match P.globalNamed n with | some g => (match P.globals[g]? with | some gl => P.readableRec gl.type && decide (gl.type < P.types.size) | none => false) | none => false) = true →
      DataW.TrodVars enc P W (fun _ => true) ns ds ps → DataW.TrodVars enc P W' (fun b => decide (b < W.heap.size)) ns ds ps
  | [], [], ps, _, h => h
  | n :: ns, d :: ds, ps, hr, h => by
    obtain ⟨g, t, cs, fuel, p, q, hg, ht, hv, hd, hq, rfl⟩ := h
    simp only [List.all_cons, Bool.and_eq_true] at hr
    have hgl : g < W.heap.size := by
      rcases Nat.lt_or_ge g W.heap.size with h' | h'
      · exact h'
      · simp [World.var?, hg, Array.getElem?_eq_none h'] at hv
    have hv' := var?_below hb hg hgl hv
    have hrt : P.readableRec t = true ∧ t < P.types.size := by
      have h1 := hr.1
      rw [hg] at h1
      obtain ⟨gl, hgl', rfl⟩ := Option.map_eq_some_iff.1 ht
      simp only [hgl', Bool.and_eq_true, decide_eq_true_iff] at h1
      exact h1
    have hlt : ∀ x ∈ p, x.block < W.heap.size := DataW.trod_lt fuel _ _ _ hd
    have hd' := DataW.trod_stays (w' := W') (sp' := fun b => decide (b < W.heap.size)) (kids_book hl hrt.1) (book_sized hrt.1) (fun h => by cases h) ⟨hrt.2, book_self t⟩ hd (fun x hx => hb.same (hlt x hx)) (fun x hx => by simpa using hlt x hx)
    exact ⟨g, t, cs, fuel, p, q, hg, ht, hv', hd', TrodVars_below hl hb hr.2 hq, rfl⟩
  | [], _ :: _, _, _, h => by cases h
  | _ :: _, [], _, _, h => by cases h
theorem TrodVars_len {H : Type} {enc : TypeId × Value → H} {P : Program} {w : World} {sp : Nat → Bool} : ∀ {ns : List String} {ds : List (DataW H)} {ps : List MemPlace}, DataW.TrodVars enc P w sp ns ds ps → ds.length = ns.length
  | [], [], _, _ => rfl
  | _ :: _, _ :: _, _, h => by
    obtain ⟨_, _, _, _, _, _, _, _, _, _, hq, _⟩ := h
    simp [TrodVars_len hq]
  | [], _ :: _, _, h => by cases h
  | _ :: _, [], _, h => by cases h
/-- An array of strings that reads as a table holds the table's strings, cell for cell. -/
theorem cells_of_strs {H : Type} {enc : TypeId × Value → H} {P : Program} {w : World} {base : Nat} {sp : Nat → Bool} {held : Bool} {fuel : Nat} {t e : TypeId} {n : Nat} {cs : List Value} {bs : List ByteArray} {p : List MemPlace}
    (ht : P.underlying t = some (.array n e)) (he : P.underlying e = some .string) (hce : P.cellsOf e = 1) (hct : P.cellsOf t = n)
    (h : DataW.trod enc P w base sp held fuel t cs = some (.agg (bs.map fun b => .lit (.string b.data.toList)), p)) : cs = bs.map Value.string := by
  obtain ⟨xs, m, rfl, hx, hcl, hxl, hi⟩ := DataW.trod_array ht h
  have hxs : xs.map (·.1) = bs.map fun b => (DataW.lit (.string b.data.toList) : DataW H) := by
    have := congrArg Prod.fst hx
    simpa using this.symm
  have hbl : bs.length = n := by
    have := congrArg List.length hxs
    simp at this
    omega
  rw [hct] at hcl
  apply List.ext_getElem?
  intro i
  by_cases hin : i < n
  · have h1 := hi i hin
    rw [hce, Nat.mul_one] at h1
    rw [List.getElem?_eq_getElem (by omega)] at h1
    obtain ⟨s, hc, hs, _⟩ := DataW.trod_string he h1
    have h2 : cs[i]? = some (.string s) := by
      have := congrArg (·[0]?) hc
      simpa [List.getElem?_take, List.getElem?_drop] using this
    have h3 : (xs.map (·.1))[i]? = some (DataW.lit (.string s.data.toList) : DataW H) := by
      rw [List.getElem?_map, List.getElem?_eq_getElem (by omega), hs]
      rfl
    rw [hxs, List.getElem?_map, List.getElem?_eq_getElem (by omega)] at h3
    simp only [Option.map_some, Option.some.injEq, DataW.lit.injEq, Lit.string.injEq] at h3
    rw [h2, List.getElem?_map, List.getElem?_eq_getElem (by omega)]
    simp only [Option.map_some, Option.some.injEq, Value.string.injEq]
    obtain ⟨⟨sl⟩⟩ := s
    generalize bs[i] = b at h3 ⊢
    obtain ⟨⟨bl⟩⟩ := b
    simp only at h3
    rw [h3]
  · rw [List.getElem?_eq_none (by omega), List.getElem?_eq_none (by simp; omega)]
/-- From the row's list to the cells: the table stands first on the list. -/
theorem strs_of_head {P : Program} {W : World} {name : String} {bs : List ByteArray} {rest : List (String × DataW Unit)} {g : Nat} {t e : TypeId} {n : Nat}
    (hg : P.globalNamed name = some g) (hty : (P.globals[g]?).map (·.type) = some t) (ht : P.underlying t = some (.array n e)) (he : P.underlying e = some .string) (hce : P.cellsOf e = 1) (hct : P.cellsOf t = n)
    (h : laidMet P ((name, .agg (bs.map fun b => .lit (.string b.data.toList))) :: rest) W) : ∀ i, W.cell? ⟨g, i, none⟩ = (bs.map Value.string)[i]? := by
  obtain ⟨ps, ⟨g', t', cs, fuel, p, q, hg', ht', hvar, hd, _, _⟩, _⟩ := h
  obtain rfl := Option.some.inj (hg.symm.trans hg')
  obtain rfl := Option.some.inj (hty.symm.trans ht')
  have := cells_of_strs ht he hce hct hd
  intro i
  rw [World.var?_cell hg hvar i, ← this]
  simp
/-- Some of the listed variables, by name. -/
theorem laid_pick {P : Program} {l l' : List (String × DataW Unit)} {W : World} (names : List String) (h : laidMetH P l W) (hl : (l.filter fun x => names.contains x.1) = l') : laidMetH P l' W := hl ▸ h.filter _
/-- A row of a table: a word and three integers. -/
def rowD {H : Type} (r : ByteArray × Int × Int × Int) : DataW H := .agg [.lit (.string r.1.data.toList), .lit (.int .i64 r.2.1), .lit (.int .i64 r.2.2.1), .lit (.int .i64 r.2.2.2)]
theorem win_at {cs : List Value} {a j : Nat} {v : Value} (hj : j < 4) (h : ((List.take 4 (List.drop a cs)).drop j).take 1 = [v]) : cs[a + j]? = some v := by
  have := congrArg (·[0]?) h
  simpa [List.getElem?_take, List.getElem?_drop, hj] using this
theorem str_eq {s b : ByteArray} (h : s.data.toList = b.data.toList) : s = b := by
  obtain ⟨⟨sl⟩⟩ := s
  obtain ⟨⟨bl⟩⟩ := b
  simp only at h
  rw [h]
/-- An array of such rows that reads as a table holds the table, cell for cell. -/
theorem cells_of_rows4 {H : Type} {enc : TypeId × Value → H} {P : Program} {w : World} {base : Nat} {sp : Nat → Bool} {held : Bool} {fuel : Nat} {t e : TypeId} {n : Nat} {cs : List Value} {rows : List (ByteArray × Int × Int × Int)} {p : List MemPlace} {f0 f1 f2 f3 : Field}
    (ht : P.underlying t = some (.array n e)) (he : P.underlying e = some (.struct #[f0, f1, f2, f3])) (hce : P.cellsOf e = 4)
    (h0 : P.underlying f0.type = some .string) (h1 : P.underlying f1.type = some (.int .i64)) (h2 : P.underlying f2.type = some (.int .i64)) (h3 : P.underlying f3.type = some (.int .i64))
    (o : f0.offset = 0 ∧ f1.offset = 1 ∧ f2.offset = 2 ∧ f3.offset = 3) (c : P.cellsOf f0.type = 1 ∧ P.cellsOf f1.type = 1 ∧ P.cellsOf f2.type = 1 ∧ P.cellsOf f3.type = 1)
    (h : DataW.trod enc P w base sp held fuel t cs = some (.agg (rows.map rowD), p)) (i : Nat) (r : ByteArray × Int × Int × Int) (hr : rows[i]? = some r) :
    cs[i * 4]? = some (.string r.1) ∧ cs[i * 4 + 1]? = some (.int .i64 r.2.1) ∧ cs[i * 4 + 2]? = some (.int .i64 r.2.2.1) ∧ cs[i * 4 + 3]? = some (.int .i64 r.2.2.2) := by
  obtain ⟨xs, m, rfl, hx, hcl, hxl, hi⟩ := DataW.trod_array ht h
  have hxs : xs.map (·.1) = rows.map (rowD (H := H)) := by
    have := congrArg Prod.fst hx
    simpa using this.symm
  have hil : i < rows.length := (List.getElem?_eq_some_iff.1 hr).1
  have hln : rows.length = n := by
    have := congrArg List.length hxs
    simp at this
    omega
  have hw := hi i (by omega)
  rw [hce, List.getElem?_eq_getElem (by omega)] at hw
  have hy : (xs[i]'(by omega)).1 = rowD r := by
    have := congrArg (·[i]?) hxs
    simpa [List.getElem?_map, hr, List.getElem?_eq_getElem (show i < xs.length by omega)] using this
  obtain ⟨y0, y1, y2, y3, q, hyy, _, g0, g1, g2, g3⟩ := Joins.trod_struct4 he hw
  rw [hyy] at hy
  simp only [rowD, DataW.agg.injEq, List.cons.injEq, and_true] at hy
  obtain ⟨a0, a1, a2, a3⟩ := hy
  rw [o.1, c.1] at g0
  rw [o.2.1, c.2.1] at g1
  rw [o.2.2.1, c.2.2.1] at g2
  rw [o.2.2.2, c.2.2.2] at g3
  obtain ⟨s, e0, rfl, _⟩ := DataW.trod_string h0 g0
  obtain ⟨n1, e1, rfl, _⟩ := DataW.trod_int h1 g1
  obtain ⟨n2, e2, rfl, _⟩ := DataW.trod_int h2 g2
  obtain ⟨n3, e3, rfl, _⟩ := DataW.trod_int h3 g3
  simp only [DataW.lit.injEq, Lit.string.injEq, Lit.int.injEq, true_and] at a0 a1 a2 a3
  obtain rfl := str_eq a0
  subst a1 a2 a3
  exact ⟨win_at (a := i * 4) (j := 0) (by omega) e0, win_at (a := i * 4) (j := 1) (by omega) e1, win_at (a := i * 4) (j := 2) (by omega) e2, win_at (a := i * 4) (j := 3) (by omega) e3⟩
/-- From the row's list to the cells: the table stands first on the list. -/
theorem rows4_of_head {P : Program} {W : World} {name : String} {rows : List (ByteArray × Int × Int × Int)} {rest : List (String × DataW Unit)} {g : Nat} {t e : TypeId} {n : Nat} {f0 f1 f2 f3 : Field}
    (hg : P.globalNamed name = some g) (hty : (P.globals[g]?).map (·.type) = some t) (ht : P.underlying t = some (.array n e)) (he : P.underlying e = some (.struct #[f0, f1, f2, f3])) (hce : P.cellsOf e = 4)
    (h0 : P.underlying f0.type = some .string) (h1 : P.underlying f1.type = some (.int .i64)) (h2 : P.underlying f2.type = some (.int .i64)) (h3 : P.underlying f3.type = some (.int .i64))
    (o : f0.offset = 0 ∧ f1.offset = 1 ∧ f2.offset = 2 ∧ f3.offset = 3) (c : P.cellsOf f0.type = 1 ∧ P.cellsOf f1.type = 1 ∧ P.cellsOf f2.type = 1 ∧ P.cellsOf f3.type = 1)
    (h : laidMet P ((name, .agg (rows.map rowD)) :: rest) W) (i : Nat) (r : ByteArray × Int × Int × Int) (hr : rows[i]? = some r) :
    W.cell? ⟨g, i * 4, none⟩ = some (.string r.1) ∧ W.cell? ⟨g, i * 4 + 1, none⟩ = some (.int .i64 r.2.1) ∧ W.cell? ⟨g, i * 4 + 2, none⟩ = some (.int .i64 r.2.2.1) ∧ W.cell? ⟨g, i * 4 + 3, none⟩ = some (.int .i64 r.2.2.2) := by
  obtain ⟨ps, ⟨g', t', cs, fuel, p, q, hg', ht', hvar, hd, _, _⟩, _⟩ := h
  obtain rfl := Option.some.inj (hg.symm.trans hg')
  obtain rfl := Option.some.inj (hty.symm.trans ht')
  have := cells_of_rows4 ht he hce h0 h1 h2 h3 o c hd i r hr
  simp only [World.var?_cell hg hvar]
  simpa using this
end Go.Proofs.YtgbnoaclklbjbaaDoor
