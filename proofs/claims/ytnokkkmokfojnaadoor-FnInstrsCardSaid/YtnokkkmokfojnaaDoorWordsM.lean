/- The words of a text: the bytes between spaces. Plain facts. -/
import Derived.Lib.FieldsP
import Derived.Lib.Join
import Derived.WideShapes
namespace Go.Proofs.YtnokkkmokfojnaaDoor
open Go.Lib Go.WideShapes
/-- The words, behind what stands open. -/
def wgo : List UInt8 → List UInt8 → List (List UInt8)
  | cur, [] => if cur = [] then [] else [cur]
  | cur, c :: r => if c = 32 then (if cur = [] then wgo [] r else cur :: wgo [] r) else wgo (cur ++ [c]) r
def wordsL (l : List UInt8) : List (List UInt8) := wgo [] l
def Bare (x : List UInt8) : Prop := ∀ c ∈ x, c ≠ (32 : UInt8)
theorem wgo_run : ∀ (x cur r : List UInt8), Bare x → wgo cur (x ++ r) = wgo (cur ++ x) r
  | [], cur, r, _ => by simp
  | c :: x, cur, r, h => by
    have hc : c ≠ 32 := h c (by simp)
    rw [List.cons_append, wgo, if_neg hc, wgo_run x (cur ++ [c]) r (fun d hd => h d (by simp [hd]))]
    simp
theorem wgo_space (cur r : List UInt8) : wgo cur (32 :: r) = (if cur = [] then wgo [] r else cur :: wgo [] r) := by rw [wgo, if_pos rfl]
/-- The pieces are words, and not longer together than what they are of. -/
theorem wgo_bare : ∀ (l cur : List UInt8), Bare cur → ∀ x ∈ wgo cur l, x ≠ [] ∧ Bare x
  | [], cur, hc, x, hx => by
    rw [wgo] at hx
    split at hx
    · simp at hx
    · rename_i h
      simp at hx
      subst hx
      exact ⟨h, hc⟩
  | c :: r, cur, hc, x, hx => by
    rw [wgo] at hx
    split at hx
    · split at hx
      · exact wgo_bare r [] (by simp [Bare]) x hx
      · rename_i h
        rcases List.mem_cons.1 hx with rfl | hx
        · exact ⟨h, hc⟩
        · exact wgo_bare r [] (by simp [Bare]) x hx
    · rename_i h
      refine wgo_bare r (cur ++ [c]) (fun d hd => ?_) x hx
      rcases List.mem_append.1 hd with hd | hd
      · exact hc d hd
      · simp at hd; rw [hd]; exact h
def total (ws : List (List UInt8)) : Nat := (ws.map List.length).sum
theorem wgo_total : ∀ (l cur : List UInt8), total (wgo cur l) ≤ cur.length + l.length
  | [], cur => by
    rw [wgo]
    split <;> simp [total]
  | c :: r, cur => by
    rw [wgo]
    split
    · split
      · have := wgo_total r []
        simp at this ⊢
        omega
      · have := wgo_total r []
        simp [total] at this ⊢
        omega
    · have := wgo_total r (cur ++ [c])
      simp at this ⊢
      omega
theorem words_bare (l : List UInt8) : ∀ x ∈ wordsL l, x ≠ [] ∧ Bare x := wgo_bare l [] (by simp [Bare])
theorem words_total (l : List UInt8) : total (wordsL l) ≤ l.length := by simpa [wordsL] using wgo_total l []
theorem length_total : ∀ (ws : List (List UInt8)), (∀ x ∈ ws, x ≠ []) → ws.length ≤ total ws
  | [], _ => by simp [total]
  | x :: t, h => by
    have hx : x.length ≠ 0 := fun h0 => h x (by simp) (List.eq_nil_of_length_eq_zero h0)
    have := length_total t (fun y hy => h y (by simp [hy]))
    simp [total] at this ⊢
    omega
theorem words_len (l : List UInt8) : (wordsL l).length ≤ l.length := Nat.le_trans (length_total _ (fun x hx => (words_bare l x hx).1)) (words_total l)
theorem word_len {ws : List (List UInt8)} {x : List UInt8} (h : x ∈ ws) : x.length ≤ total ws := by
  induction ws with
  | nil => cases h
  | cons y t ih =>
    rcases List.mem_cons.1 h with rfl | h
    · simp [total]
    · have := ih h
      simp [total] at this ⊢
      omega
theorem join_total : ∀ (ws : List (List UInt8)), (Lib.join ws [32]).length ≤ total ws + ws.length
  | [] => by simp [Lib.join_nil, total]
  | x :: t => by
    rw [Lib.join_cons, List.length_append]
    have key : ∀ t : List (List UInt8), (Lib.joinTail [32] t).length = total t + t.length := by
      intro t
      induction t with
      | nil => simp [Lib.joinTail, total]
      | cons y t ih => simp [Lib.joinTail, total] at ih ⊢; omega
    rw [key]
    simp [total]
    omega
/-- Joined by one space, words are what they were. -/
theorem words_join : ∀ (ws : List (List UInt8)), (∀ x ∈ ws, x ≠ [] ∧ Bare x) → wordsL (Lib.join ws [32]) = ws
  | [], _ => by simp [Lib.join_nil, wordsL, wgo]
  | [x], h => by
    obtain ⟨h0, h1⟩ := h x (by simp)
    rw [Lib.join_one, wordsL]
    have := wgo_run x [] [] h1
    simp only [List.append_nil, List.nil_append] at this
    rw [this, wgo, if_neg h0]
  | x :: y :: t, h => by
    obtain ⟨h0, h1⟩ := h x (by simp)
    have ih := words_join (y :: t) (fun z hz => h z (by simp [hz]))
    have e : Lib.join (x :: y :: t) [32] = x ++ (32 :: Lib.join (y :: t) [32]) := by
      rw [Lib.join_cons, Lib.join_cons]
      simp [Lib.joinTail]
    rw [e, wordsL, wgo_run x [] _ h1, List.nil_append, wgo_space, if_neg h0]
    unfold wordsL at ih
    rw [ih]
/-- A space among the runes is a space among the bytes. -/
theorem dec_space (n b0 b1 b2 b3 : Nat) (h : (decodeN n b0 b1 b2 b3).1 = 32) : b0 = 32 ∧ (decodeN n b0 b1 b2 b3).2 = 1 := by
  unfold decodeN at *
  repeat' split at h
  all_goals simp only at h
  all_goals first | omega | skip
  all_goals (rw [if_pos (by assumption)]; exact ⟨h, rfl⟩)
def DecOther (b0 b1 b2 b3 : Nat) (r : Nat × Nat) : Prop := r.1 ≠ 32 → b0 ≠ 32 ∧ (2 ≤ r.2 → b1 ≠ 32) ∧ (3 ≤ r.2 → b2 ≠ 32) ∧ (4 ≤ r.2 → b3 ≠ 32) ∧ r.2 ≤ 4
theorem dec_other (n b0 b1 b2 b3 : Nat) : DecOther b0 b1 b2 b3 (decodeN n b0 b1 b2 b3) := by
  unfold decodeN
  repeat' split
  all_goals (unfold DecOther; simp only; omega)
theorem get_drop (s : ByteArray) (k : Nat) (h : k < s.size) : s.data.toList.drop k = s.get! k :: s.data.toList.drop (k + 1) := by
  have hl : k < s.data.toList.length := by rw [← size_eq]; exact h
  rw [List.drop_eq_getElem_cons hl]
  congr 1
  show s.data.toList[k] = s.data[k]!
  rw [getElem!_pos s.data k h]
  simp
/-- What one rune takes, where it is no space. -/
theorem bare_take (s : ByteArray) (pos : Nat) (h : (Utf8.decode s pos).1 ≠ 32) (hp : pos + (Utf8.decode s pos).2 ≤ s.size) : Bare ((s.data.toList.drop pos).take (Utf8.decode s pos).2) := by
  have hd := dec_other (s.size - pos) (s.get! pos).toNat (s.get! (pos + 1)).toNat (s.get! (pos + 2)).toNat (s.get! (pos + 3)).toNat
  rw [← decode_at] at hd
  obtain ⟨h0, h1, h2, h3, h4⟩ := hd h
  have ne : ∀ c : UInt8, c.toNat ≠ 32 → c ≠ 32 := fun c hc e => hc (by rw [e]; rfl)
  generalize (Utf8.decode s pos).2 = m at *
  intro c hc
  match m, h4 with
  | 0, _ => simp at hc
  | 1, _ =>
    rw [get_drop s pos (by omega)] at hc
    simp at hc
    rw [hc]; exact ne _ h0
  | 2, _ =>
    rw [get_drop s pos (by omega), get_drop s (pos + 1) (by omega)] at hc
    simp at hc
    rcases hc with rfl | rfl
    · exact ne _ h0
    · exact ne _ (h1 (by omega))
  | 3, _ =>
    rw [get_drop s pos (by omega), get_drop s (pos + 1) (by omega), get_drop s (pos + 1 + 1) (by omega)] at hc
    simp at hc
    rcases hc with rfl | rfl | rfl
    · exact ne _ h0
    · exact ne _ (h1 (by omega))
    · exact ne _ (h2 (by omega))
  | 4, _ =>
    rw [get_drop s pos (by omega), get_drop s (pos + 1) (by omega), get_drop s (pos + 1 + 1) (by omega), get_drop s (pos + 1 + 1 + 1) (by omega)] at hc
    simp at hc
    rcases hc with rfl | rfl | rfl | rfl
    · exact ne _ h0
    · exact ne _ (h1 (by omega))
    · exact ne _ (h2 (by omega))
    · exact ne _ (h3 (by omega))
def isSp (r : Nat) : Bool := r == 32
theorem decode_le (s : ByteArray) (pos : Nat) (h : pos < s.size) : pos + (Utf8.decode s pos).2 ≤ s.size := by
  have := decodeN_le_n' (s.size - pos) (s.get! pos).toNat (s.get! (pos + 1)).toNat (s.get! (pos + 2)).toNat (s.get! (pos + 3)).toNat (by omega)
  rw [← decode_at] at this
  omega
/-- The pass over the runes finds the words. -/
theorem spans_words (s : ByteArray) : ∀ (f pos : Nat) (st : Option Nat) (acc : List (Nat × Nat)), s.size ≤ pos + f → pos ≤ s.size → (∀ a, st = some a → a < pos) →
    acc.map (fun p => pieceU s.data.toList p.1 p.2) ++ wgo (openPiece s.data.toList st pos) (s.data.toList.drop pos) = (closeSpans s (spansFromP isSp s f pos st acc)).map (fun p => pieceU s.data.toList p.1 p.2) := by
  intro f
  induction f with
  | zero =>
    intro pos st acc h hp hst
    obtain rfl : pos = s.size := by omega
    have hd : s.data.toList.drop s.size = [] := List.drop_eq_nil_of_le (by rw [← size_eq]; exact Nat.le_refl _)
    rw [hd, wgo]
    cases st with
    | none => simp [spansFromP, closeSpans, openPiece]
    | some a =>
      have := pieceU_ne s.data.toList a s.size (hst a rfl) (by rw [← size_eq]; exact Nat.le_refl _)
      simp [spansFromP, closeSpans, openPiece, this]
  | succ f ih =>
    intro pos st acc h hp hst
    by_cases hlt : pos < s.size
    · have hw := width_pos s pos
      have hwn := decode_le s pos hlt
      simp only [spansFromP, if_pos hlt]
      cases hsp : isSp (Utf8.decode s pos).1 with
      | true =>
        have h32 : (Utf8.decode s pos).1 = 32 := by unfold isSp at hsp; exact eq_of_beq hsp
        have hd := dec_space (s.size - pos) (s.get! pos).toNat (s.get! (pos + 1)).toNat (s.get! (pos + 2)).toNat (s.get! (pos + 3)).toNat (by rw [← decode_at]; exact h32)
        rw [← decode_at] at hd
        have hb : s.get! pos = 32 := by
          have := hd.1
          exact UInt8.toNat_inj.1 this
        rw [get_drop s pos hlt, hb, wgo_space]
        simp only [if_true]
        cases st with
        | none =>
          have i1 := ih (pos + (Utf8.decode s pos).2) none acc (by omega) hwn (fun a h => by cases h)
          rw [hd.2] at i1 ⊢
          simpa [openPiece] using i1
        | some a =>
          have hpn := pieceU_ne s.data.toList a pos (hst a rfl) (by rw [← size_eq]; omega)
          have i1 := ih (pos + (Utf8.decode s pos).2) none (acc ++ [(a, pos)]) (by omega) hwn (fun a h => by cases h)
          rw [hd.2] at i1 ⊢
          simpa [openPiece, hpn] using i1
      | false =>
        have h32 : (Utf8.decode s pos).1 ≠ 32 := by
          intro e
          unfold isSp at hsp
          rw [e] at hsp
          simp at hsp
        have hbt := bare_take s pos h32 hwn
        have hsplit : s.data.toList.drop pos = (s.data.toList.drop pos).take (Utf8.decode s pos).2 ++ s.data.toList.drop (pos + (Utf8.decode s pos).2) := by
          rw [← List.drop_drop, List.take_append_drop]
        rw [hsplit, wgo_run _ _ _ hbt]
        simp only [Bool.false_eq_true, if_false]
        cases st with
        | none =>
          have i1 := ih (pos + (Utf8.decode s pos).2) (some pos) acc (by omega) hwn (fun a h => by cases h; omega)
          have e : ([] : List UInt8) ++ (s.data.toList.drop pos).take (Utf8.decode s pos).2 = pieceU s.data.toList pos (pos + (Utf8.decode s pos).2) := by
            unfold pieceU
            rw [List.nil_append, Nat.add_sub_cancel_left]
          simp only [openPiece] at i1 ⊢
          rw [e]
          exact i1
        | some a =>
          have i1 := ih (pos + (Utf8.decode s pos).2) (some a) acc (by omega) hwn (fun b h => by cases h; have := hst a rfl; omega)
          simp only [openPiece] at i1 ⊢
          rw [pieceU_grow _ _ _ _ (Nat.le_of_lt (hst a rfl))]
          exact i1
    · obtain rfl : pos = s.size := by omega
      have hd : s.data.toList.drop s.size = [] := List.drop_eq_nil_of_le (by rw [← size_eq]; exact Nat.le_refl _)
      rw [hd, wgo, spansFromP_end isSp s _ _ _ _ hlt]
      cases st with
      | none => simp [closeSpans, openPiece]
      | some a =>
        have := pieceU_ne s.data.toList a s.size (hst a rfl) (by rw [← size_eq]; exact Nat.le_refl _)
        simp [closeSpans, openPiece, this]
/-- The words as texts. -/
def wordsB (s : ByteArray) : List ByteArray := (wordsL s.data.toList).map fun l => ⟨l.toArray⟩
theorem fields_words (s : ByteArray) : goFieldsP isSp s = wordsB s := by
  have h := spans_words s s.size 0 none [] (by omega) (Nat.zero_le _) (fun a h => by cases h)
  simp only [List.map_nil, List.nil_append, openPiece, List.drop_zero] at h
  unfold wordsB wordsL goFieldsP spansOfP
  rw [h, List.map_map]
  apply List.map_congr_left
  intro p _
  apply bytes_inj
  simp [pieceU]
theorem wordsB_list (s : ByteArray) : (wordsB s).map (·.data.toList) = wordsL s.data.toList := by
  unfold wordsB
  rw [List.map_map]
  simp [Function.comp_def]
theorem wordsB_len (s : ByteArray) : (wordsB s).length ≤ s.size := by
  unfold wordsB
  rw [List.length_map, size_eq]
  exact words_len _
end Go.Proofs.YtnokkkmokfojnaaDoor
