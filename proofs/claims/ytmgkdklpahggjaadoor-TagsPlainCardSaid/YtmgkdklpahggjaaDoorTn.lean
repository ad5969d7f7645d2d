/- Plain mathematics of tags: which texts are tags, the quoted form, how it is read, widths, the order of texts. Nothing of the program. -/
import Derived.Test.YtmgkdklpahggjaaDoorTm
import Derived.Lib.ReplaceLaws
namespace Go.Proofs.YtmgkdklpahggjaaDoor
open Go.Lib

/-! ### tags -/
structure Tag (l : List UInt8) (rs : List Nat) : Prop where
  utf : Utf l rs
  pos : 1 ≤ rs.length
  le : rs.length ≤ 24
  good : ∀ r ∈ rs, 32 ≤ r ∧ r ≠ 127
def NoTag (l : List UInt8) : Prop := ∀ rs, ¬ Tag l rs
theorem tag_dec (l : List UInt8) : (∃ rs, Tag l rs) ∨ NoTag l := by
  by_cases h : ∃ rs, Tag l rs
  · exact .inl h
  · exact .inr fun rs hr => h ⟨rs, hr⟩
theorem tag_unique {l : List UInt8} {rs ts : List Nat} (h : Tag l rs) (k : Tag l ts) : rs = ts := utf_unique h.utf k.utf
theorem tag_len {l : List UInt8} {rs : List Nat} (h : Tag l rs) : 1 ≤ l.length ∧ l.length ≤ 96 := by
  have := utf_len h.utf; have := h.pos; have := h.le; omega

/-! ### the quoted form -/
def escB (b : UInt8) : List UInt8 := if b = 34 ∨ b = 92 then [92, b] else [b]
def esc (l : List UInt8) : List UInt8 := l.flatMap escB
def quo (l : List UInt8) : List UInt8 := 34 :: (esc l ++ [34])
theorem esc_length (l : List UInt8) : l.length ≤ (esc l).length ∧ (esc l).length ≤ 2 * l.length := by
  induction l with
  | nil => simp [esc]
  | cons b t ih =>
    have e : esc (b :: t) = escB b ++ esc t := rfl
    have : 1 ≤ (escB b).length ∧ (escB b).length ≤ 2 := by unfold escB; split <;> simp
    rw [e]; simp; omega

theorem index_head (c : UInt8) (t : List UInt8) : index (c :: t) [c] = ((0 : Nat) : Int) := by
  exact index_first (i := 0) (Nat.zero_le _) (by simp [occAt]) (fun _ h => absurd h (Nat.not_lt_zero _))
theorem replaceK_one_ne (b c : UInt8) (new : List UInt8) (h : b ≠ c) (k : Nat) (t : List UInt8) : replaceK [c] new k (b :: t) = b :: replaceK [c] new k t := by
  cases k with
  | zero => rfl
  | succ k =>
    have hi : index (b :: t) [c] = if index t [c] == -1 then -1 else index t [c] + 1 := by
      rw [index, if_neg (by simp [List.isPrefixOf, Ne.symm h])]
    rcases index_spec t [c] with ⟨e, _⟩ | ⟨i, e, _, _, _⟩
    · have hb : index (b :: t) [c] = -1 := by rw [hi, e]; rfl
      simp [replaceK, e, hb]
    · have hb : index (b :: t) [c] = ((i + 1 : Nat) : Int) := by
        rw [hi, e, if_neg (by simp)]; omega
      rw [replaceK_hit _ _ _ _ _ e, replaceK_hit _ _ _ _ _ hb]
      simp
theorem replaceK_one (c : UInt8) (new : List UInt8) : ∀ s : List UInt8, replaceK [c] new (count s [c]) s = s.flatMap (fun b => if b = c then new else [b])
  | [] => by
    rw [count_one]; rfl
  | b :: t => by
    by_cases h : b = c
    · subst h
      rw [count_cons_eq, Nat.add_comm, replaceK_hit _ _ _ _ _ (index_head b t)]
      simp only [List.take_zero, List.nil_append, List.length_cons, List.length_nil, Nat.zero_add, List.drop_succ_cons, List.drop_zero]
      rw [replaceK_one b new t]
      simp
    · rw [count_cons_ne b c t h, replaceK_one_ne b c new h, replaceK_one c new t]
      simp [h]
theorem replaceAll_one (c : UInt8) (new s : List UInt8) (h : ([c] == new) = false) : replace s [c] new (-1) = s.flatMap (fun b => if b = c then new else [b]) := by
  unfold replace replaceNum
  rw [if_neg (by simpa using h), if_pos (by omega)]
  exact replaceK_one c new s
/-- The two replacements of Quote. -/
theorem twice_esc (s : List UInt8) : replace (replace s [92] [92, 92] (-1)) [34] [92, 34] (-1) = esc s := by
  rw [replaceAll_one 92 _ _ (by decide), replaceAll_one 34 _ _ (by decide), List.flatMap_assoc]
  unfold esc
  congr 1
  funext b
  unfold escB
  by_cases h1 : b = 92
  · subst h1; decide
  · by_cases h2 : b = 34
    · subst h2; decide
    · simp [h1, h2]

/-! ### reading it -/
/-- What stands behind the first quote: what is read, and how many bytes that took, the last quote among them. -/
def scan : List UInt8 → Option (List UInt8 × Nat)
  | [] => none
  | [b] => if b = 34 then some ([], 1) else none
  | b :: c :: u =>
    if b = 34 then some ([], 1)
    else if b = 92 then (if c = 34 ∨ c = 92 then (scan u).map fun p => (c :: p.1, p.2 + 2) else none)
    else (scan (c :: u)).map fun p => (b :: p.1, p.2 + 1)
theorem scan_nil : scan [] = none := rfl
theorem scan_quote (t : List UInt8) : scan (34 :: t) = some ([], 1) := by cases t <;> simp [scan]
theorem scan_back (c : UInt8) (u : List UInt8) (h : c = 34 ∨ c = 92) : scan (92 :: c :: u) = (scan u).map fun p => (c :: p.1, p.2 + 2) := by
  rw [scan, if_neg (by decide), if_pos rfl, if_pos h]
theorem scan_back_no (c : UInt8) (u : List UInt8) (h : ¬ (c = 34 ∨ c = 92)) : scan (92 :: c :: u) = none := by
  rw [scan, if_neg (by decide), if_pos rfl, if_neg h]
theorem scan_back_nil : scan [92] = none := by rw [scan, if_neg (by decide)]
theorem scan_other (b : UInt8) (t : List UInt8) (h1 : b ≠ 34) (h2 : b ≠ 92) : scan (b :: t) = (scan t).map fun p => (b :: p.1, p.2 + 1) := by
  cases t with
  | nil => rw [scan_nil]; simp [scan, h1]
  | cons c u => rw [scan, if_neg h1, if_neg h2]
theorem scan_esc (l more : List UInt8) : scan (esc l ++ 34 :: more) = some (l, (esc l).length + 1) := by
  induction l with
  | nil => exact scan_quote more
  | cons b t ih =>
    have e : esc (b :: t) = escB b ++ esc t := rfl
    rw [e, List.append_assoc]
    unfold escB
    split
    · rename_i h
      rw [List.cons_append, List.cons_append, List.nil_append, scan_back b _ h, ih]
      simp [List.length_append]
    · rename_i h
      rw [List.cons_append, List.nil_append, scan_other b _ (fun e => h (.inl e)) (fun e => h (.inr e)), ih]
      simp
/-- No beginning of the form, without the last quote, is read. -/
theorem scan_cut (l : List UInt8) : ∀ k, k ≤ (esc l).length → scan ((esc l ++ [34]).take k) = none := by
  induction l with
  | nil => intro k hk; simp [esc] at hk; subst hk; rfl
  | cons b t ih =>
    intro k hk
    have e : esc (b :: t) = escB b ++ esc t := rfl
    rw [e] at hk ⊢
    rw [List.append_assoc]
    cases k with
    | zero => rfl
    | succ k =>
      unfold escB at hk ⊢
      by_cases h : b = 34 ∨ b = 92
      · rw [if_pos h] at hk ⊢
        cases k with
        | zero => simpa using scan_back_nil
        | succ k =>
          simp only [List.cons_append, List.nil_append, List.length_cons, List.take_succ_cons] at hk ⊢
          rw [scan_back b _ h, ih k (by omega)]; rfl
      · rw [if_neg h] at hk ⊢
        simp only [List.cons_append, List.nil_append, List.length_cons, List.take_succ_cons] at hk ⊢
        rw [scan_other b _ (fun e => h (.inl e)) (fun e => h (.inr e)), ih k (by omega)]; rfl
/-- What is read stands there, escaped, and a quote. -/
theorem scan_stands : ∀ (k : Nat) (l : List UInt8), l.length ≤ k → ∀ x n, scan l = some (x, n) → n = (esc x).length + 1 ∧ n ≤ l.length ∧ l.take n = esc x ++ [34] := by
  intro k
  induction k with
  | zero => intro l hl x n h; rw [List.length_eq_zero_iff.1 (Nat.le_zero.1 hl)] at h; cases h
  | succ k ih =>
    intro l hl x n h
    cases l with
    | nil => cases h
    | cons b t =>
      by_cases h1 : b = 34
      · subst h1; rw [scan_quote] at h; cases h; simp [esc]
      by_cases h2 : b = 92
      · subst h2
        cases t with
        | nil => rw [scan_back_nil] at h; cases h
        | cons c u =>
          by_cases h3 : c = 34 ∨ c = 92
          · rw [scan_back c u h3] at h
            obtain ⟨⟨y, m⟩, hy, e⟩ := Option.map_eq_some_iff.1 h
            cases e
            obtain ⟨a1, a2, a3⟩ := ih u (by simp at hl; omega) y m hy
            have e : esc (c :: y) = [92, c] ++ esc y := by show escB c ++ esc y = _; unfold escB; rw [if_pos h3]
            simp only [e, List.length_append, List.length_cons, List.length_nil, List.take_succ_cons, List.cons_append, List.nil_append, a3, and_true]
            omega
          · rw [scan_back_no c u h3] at h; cases h
      · rw [scan_other b t h1 h2] at h
        obtain ⟨⟨y, m⟩, hy, e⟩ := Option.map_eq_some_iff.1 h
        cases e
        obtain ⟨a1, a2, a3⟩ := ih t (by simp at hl; omega) y m hy
        have e : esc (b :: y) = [b] ++ esc y := by show escB b ++ esc y = _; unfold escB; rw [if_neg (by simp [h1, h2])]
        simp only [e, List.length_append, List.length_cons, List.length_nil, List.take_succ_cons, List.cons_append, List.nil_append, a3, and_true]
        omega

/-! ### widths -/
def wid (r : Nat) : Nat := if r < 4352 then 1 else 2
def wids (rs : List Nat) : Nat := (rs.map wid).sum
theorem wid_12 (r : Nat) : 1 ≤ wid r ∧ wid r ≤ 2 := by unfold wid; split <;> omega
theorem wids_cons (r : Nat) (rs : List Nat) : wids (r :: rs) = wid r + wids rs := by simp [wids]
theorem wids_append (rs ts : List Nat) : wids (rs ++ ts) = wids rs + wids ts := by simp [wids]
theorem wids_le (rs : List Nat) : rs.length ≤ wids rs ∧ wids rs ≤ 2 * rs.length := by
  induction rs with
  | nil => simp [wids]
  | cons r rs ih => rw [wids_cons]; have := wid_12 r; simp; omega
/-- As many of the first runes as have at most a width together. -/
def fit : List Nat → Nat → List Nat
  | [], _ => []
  | r :: rs, w => if wid r ≤ w then r :: fit rs (w - wid r) else []
theorem fit_le : ∀ (rs : List Nat) (w : Nat), wids (fit rs w) ≤ w
  | [], _ => by simp [fit, wids]
  | r :: rs, w => by
    unfold fit
    split
    · rw [wids_cons]; have := fit_le rs (w - wid r); omega
    · simp [wids]
theorem fit_pre : ∀ (rs : List Nat) (w : Nat), fit rs w <+: rs
  | [], _ => by simp [fit]
  | r :: rs, w => by
    unfold fit
    split
    · exact List.cons_prefix_cons.2 ⟨rfl, fit_pre rs _⟩
    · exact List.nil_prefix
theorem fit_all : ∀ (rs : List Nat) (w : Nat), wids rs ≤ w → fit rs w = rs
  | [], _, _ => rfl
  | r :: rs, w, h => by
    rw [wids_cons] at h
    unfold fit
    rw [if_pos (by omega), fit_all rs _ (by omega)]
theorem fit_fit : ∀ (rs : List Nat) (w v : Nat), fit (fit rs w) v = fit rs (min w v)
  | [], _, _ => by simp [fit]
  | r :: rs, w, v => by
    by_cases h1 : wid r ≤ w
    · by_cases h2 : wid r ≤ v
      · rw [fit, if_pos h1, fit, if_pos h2, fit_fit rs, fit, if_pos (by omega)]
        congr 2; omega
      · rw [fit, if_pos h1, fit, if_neg h2, fit, if_neg (by omega)]
    · rw [fit, if_neg h1, fit, fit, if_neg (by omega)]
theorem fit_small (rs : List Nat) (w v : Nat) : fit rs (min w v) <+: fit rs w := by
  rw [← fit_fit]; exact fit_pre _ _
end Go.Proofs.YtmgkdklpahggjaaDoor
