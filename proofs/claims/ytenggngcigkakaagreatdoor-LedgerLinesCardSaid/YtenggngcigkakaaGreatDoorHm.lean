/- Plain facts about attempts: which are valid, their texts, the texts of lists, what a text reads as; what is told of one resource. Nothing of the program. -/
import Derived.Test.YtenggngcigkakaaGreatDoorDn
namespace Go.Proofs.YtenggngcigkakaaGreatDoor
open Go.Lib

/-- An attempt: its time, its resource (kind, number, generation), why, the answer. -/
structure Att where
  t : Int
  k : Int
  i : Int
  g : Int
  y : Int
  n : Int
deriving DecidableEq
/-- Its numbers fit their types. -/
structure Att.Rg (a : Att) : Prop where
  t0 : -9223372036854775808 ≤ a.t
  t1 : a.t ≤ 9223372036854775807
  k0 : -9223372036854775808 ≤ a.k
  k1 : a.k ≤ 9223372036854775807
  i0 : -9223372036854775808 ≤ a.i
  i1 : a.i ≤ 9223372036854775807
  g0 : 0 ≤ a.g
  g1 : a.g ≤ 4294967295
  y0 : -9223372036854775808 ≤ a.y
  y1 : a.y ≤ 9223372036854775807
  n0 : -9223372036854775808 ≤ a.n
  n1 : a.n ≤ 9223372036854775807
/-- It is valid. -/
structure Att.Ok (a : Att) : Prop where
  t0 : 0 ≤ a.t
  t1 : a.t ≤ 1099511627776
  k0 : 1 ≤ a.k
  k1 : a.k ≤ 3
  i0 : 0 ≤ a.i
  i1 : a.i < 64
  g0 : 1 ≤ a.g
  g1 : a.g ≤ 4294967295
  y0 : 1 ≤ a.y
  y1 : a.y ≤ 3
  n0 : 1 ≤ a.n
  n1 : a.n ≤ 3
theorem Att.Ok.rg {a : Att} (h : a.Ok) : a.Rg := by
  obtain ⟨h1, h2, h3, h4, h5, h6, h7, h8, h9, h10, h11, h12⟩ := h
  constructor <;> omega
theorem Att.Ok.okn {a : Att} (h : a.Ok) : Okn 64 a.k.toNat a.i.toNat a.g.toNat := by
  obtain ⟨h1, h2, h3, h4, h5, h6, h7, h8, h9, h10, h11, h12⟩ := h
  constructor <;> omega
theorem Att.ok_or (a : Att) : a.Ok ∨ ¬ a.Ok := Classical.em _
def AllOk (l : List Att) : Prop := ∀ a ∈ l, a.Ok
def AllRg (l : List Att) : Prop := ∀ a ∈ l, a.Rg
theorem AllOk.rg {l : List Att} (h : AllOk l) : AllRg l := fun a ha => (h a ha).rg
theorem allOk_append {l m : List Att} : AllOk (l ++ m) ↔ AllOk l ∧ AllOk m := by
  unfold AllOk
  constructor
  · intro h; exact ⟨fun a ha => h a (by simp [ha]), fun a ha => h a (by simp [ha])⟩
  · rintro ⟨h1, h2⟩ a ha
    rcases List.mem_append.1 ha with ha | ha
    · exact h1 a ha
    · exact h2 a ha
theorem allOk_nil : AllOk [] := fun _ h => by cases h
theorem allOk_one {a : Att} : AllOk [a] ↔ a.Ok := by unfold AllOk; simp
theorem allRg_append {l m : List Att} : AllRg (l ++ m) ↔ AllRg l ∧ AllRg m := by
  unfold AllRg
  constructor
  · intro h; exact ⟨fun a ha => h a (by simp [ha]), fun a ha => h a (by simp [ha])⟩
  · rintro ⟨h1, h2⟩ a ha
    rcases List.mem_append.1 ha with ha | ha
    · exact h1 a ha
    · exact h2 a ha
theorem allRg_one {a : Att} : AllRg [a] ↔ a.Rg := by unfold AllRg; simp
theorem allOk_take {l : List Att} {k : Nat} (h : k < l.length) (hl : AllOk (l.take k)) (ha : l[k].Ok) : AllOk (l.take (k + 1)) := by
  rw [List.take_succ_eq_append_getElem h]
  exact allOk_append.2 ⟨hl, allOk_one.2 ha⟩

/-! ### texts -/
def whyW (y : Int) : List UInt8 := if y = 1 then [99, 108, 111, 115, 101] else if y = 2 then [101, 120, 112, 105, 114, 121] else [99, 111, 108, 108, 101, 99, 116]
def ansW (n : Int) : List UInt8 := if n = 1 then [111, 107] else if n = 2 then [108, 97, 116, 101, 114] else [102, 97, 105, 108]
/-- The text of a valid attempt. -/
def aText (a : Att) : List UInt8 := decDigits a.t.toNat ++ 32 :: (txt 58 a.k.toNat a.i.toNat a.g.toNat ++ 32 :: (whyW a.y ++ 32 :: ansW a.n))
/-- The text of a list. -/
def lines (l : List Att) : List UInt8 := l.flatMap fun a => aText a ++ [10]
theorem lines_nil : lines [] = [] := rfl
theorem lines_append (l m : List Att) : lines (l ++ m) = lines l ++ lines m := by simp [lines]
theorem lines_one (a : Att) : lines [a] = aText a ++ [10] := by simp [lines]
theorem lines_cons (a : Att) (l : List Att) : lines (a :: l) = aText a ++ 10 :: lines l := by simp [lines]
theorem lines_snoc (l : List Att) (k : Nat) (h : k < l.length) : lines (l.take (k + 1)) = lines (l.take k) ++ (aText l[k] ++ [10]) := by
  rw [List.take_succ_eq_append_getElem h, lines_append, lines_one]

theorem whyW_mem {x : UInt8} {y : Int} (h : x ∈ whyW y) : 97 ≤ x.toNat ∧ x.toNat ≤ 122 := by
  have h1 : ∀ x ∈ ([99, 108, 111, 115, 101] : List UInt8), 97 ≤ x.toNat ∧ x.toNat ≤ 122 := by decide
  have h2 : ∀ x ∈ ([101, 120, 112, 105, 114, 121] : List UInt8), 97 ≤ x.toNat ∧ x.toNat ≤ 122 := by decide
  have h3 : ∀ x ∈ ([99, 111, 108, 108, 101, 99, 116] : List UInt8), 97 ≤ x.toNat ∧ x.toNat ≤ 122 := by decide
  unfold whyW at h
  split at h
  · exact h1 x h
  · split at h
    · exact h2 x h
    · exact h3 x h
theorem ansW_mem {x : UInt8} {y : Int} (h : x ∈ ansW y) : 97 ≤ x.toNat ∧ x.toNat ≤ 122 := by
  have h1 : ∀ x ∈ ([111, 107] : List UInt8), 97 ≤ x.toNat ∧ x.toNat ≤ 122 := by decide
  have h2 : ∀ x ∈ ([108, 97, 116, 101, 114] : List UInt8), 97 ≤ x.toNat ∧ x.toNat ≤ 122 := by decide
  have h3 : ∀ x ∈ ([102, 97, 105, 108] : List UInt8), 97 ≤ x.toNat ∧ x.toNat ≤ 122 := by decide
  unfold ansW at h
  split at h
  · exact h1 x h
  · split at h
    · exact h2 x h
    · exact h3 x h
theorem whyW_inj {a b : Int} (ha : 1 ≤ a) (ha' : a ≤ 3) (hb : 1 ≤ b) (hb' : b ≤ 3) (h : whyW a = whyW b) : a = b := by
  have h1 : a = 1 ∨ a = 2 ∨ a = 3 := by omega
  have h2 : b = 1 ∨ b = 2 ∨ b = 3 := by omega
  rcases h1 with rfl | rfl | rfl <;> rcases h2 with rfl | rfl | rfl <;> first | rfl | (exact absurd h (by decide))
theorem ansW_inj {a b : Int} (ha : 1 ≤ a) (ha' : a ≤ 3) (hb : 1 ≤ b) (hb' : b ≤ 3) (h : ansW a = ansW b) : a = b := by
  have h1 : a = 1 ∨ a = 2 ∨ a = 3 := by omega
  have h2 : b = 1 ∨ b = 2 ∨ b = 3 := by omega
  rcases h1 with rfl | rfl | rfl <;> rcases h2 with rfl | rfl | rfl <;> first | rfl | (exact absurd h (by decide))
theorem whyW_len (y : Int) : 5 ≤ (whyW y).length ∧ (whyW y).length ≤ 7 := by unfold whyW; split; simp; split <;> simp
theorem ansW_len (y : Int) : 2 ≤ (ansW y).length ∧ (ansW y).length ≤ 5 := by unfold ansW; split; simp; split <;> simp
theorem dig_ne {m : UInt8} (hm : m.toNat < 48 ∨ 57 < m.toNat) (u : Nat) : ∀ x ∈ decDigits u, x ≠ m := by
  rintro x hx rfl
  have := digits_mem u x hx
  omega
theorem txt_ne {m : UInt8} (hm : m.toNat < 48) {k p g : Nat} : ∀ x ∈ txt 58 k p g, x ≠ m := by
  rintro x hx rfl
  rcases txt_mem hx with h | h | h | h | h
  · omega
  · omega
  · omega
  · rw [h] at hm; exact absurd hm (by decide)
  · omega
theorem why_ne {m : UInt8} (hm : m.toNat < 48) (y : Int) : ∀ x ∈ whyW y, x ≠ m := by
  rintro x hx rfl
  have := whyW_mem hx
  omega
theorem ans_ne {m : UInt8} (hm : m.toNat < 48) (y : Int) : ∀ x ∈ ansW y, x ≠ m := by
  rintro x hx rfl
  have := ansW_mem hx
  omega
theorem aText_inj {a b : Att} (ha : a.Ok) (hb : b.Ok) (h : aText a = aText b) : a = b := by
  unfold aText at h
  obtain ⟨e1, h⟩ := split_eq (dig_ne (by decide) _) (dig_ne (by decide) _) h
  obtain ⟨e2, h⟩ := split_eq (txt_ne (by decide)) (txt_ne (by decide)) h
  obtain ⟨e3, e4⟩ := split_eq (why_ne (by decide) _) (why_ne (by decide) _) h
  have e1 := digits_inj e1
  obtain ⟨e5, e6, e7⟩ := txt_inj (.inr rfl) ha.okn hb.okn e2
  have e3 := whyW_inj ha.y0 ha.y1 hb.y0 hb.y1 e3
  have e4 := ansW_inj ha.n0 ha.n1 hb.n0 hb.n1 e4
  obtain ⟨h1, h2, h3, h4, h5, h6, h7, h8, h9, h10, h11, h12⟩ := ha
  obtain ⟨g1, g2, g3, g4, g5, g6, g7, g8, g9, g10, g11, g12⟩ := hb
  cases a; cases b
  simp only [Att.mk.injEq] at *
  refine ⟨?_, ?_, ?_, ?_, e3, e4⟩ <;> omega
theorem aText_ne {m : UInt8} (hm : m.toNat < 32) (a : Att) : ∀ x ∈ aText a, x ≠ m := by
  intro x hx e
  unfold aText at hx
  rw [List.mem_append, List.mem_cons, List.mem_append, List.mem_cons, List.mem_append, List.mem_cons] at hx
  rcases hx with hx | rfl | hx | rfl | hx | rfl | hx
  · exact dig_ne (by omega) _ x hx e
  · subst e; exact absurd hm (by decide)
  · exact txt_ne (by omega) x hx e
  · subst e; exact absurd hm (by decide)
  · exact why_ne (by omega) _ x hx e
  · subst e; exact absurd hm (by decide)
  · exact ans_ne (by omega) _ x hx e
theorem aText_size {a : Att} (h : a.Ok) : 16 ≤ (aText a).length + 1 ∧ (aText a).length ≤ 50 := by
  have h1 := decDigits_length a.t.toNat
  have h2 := txt_size (m := 58) h.okn (by omega)
  have h3 := whyW_len a.y
  have h4 := ansW_len a.n
  have h5 : nDigits a.t.toNat ≤ 13 := by
    refine nDigits_le 12 _ ?_
    have := h.t1; have := h.t0; have h3 : (10 : Nat) ^ (12 + 1) = 10000000000000 := by decide
    omega
  have h6 := nDigits_pos a.t.toNat
  simp only [aText, List.length_cons, List.length_append]
  omega
theorem lines_size {l : List Att} (h : AllOk l) : 16 * l.length ≤ (lines l).length ∧ (lines l).length ≤ 51 * l.length := by
  induction l with
  | nil => simp [lines]
  | cons a l ih =>
    have h1 := aText_size (h a (by simp))
    have h2 := ih fun b hb => h b (by simp [hb])
    rw [lines_cons]
    simp only [List.length_append, List.length_cons]
    omega

/-! ### what a text reads as -/
/-- The text begins with no line that is an attempt's. -/
def BadLine (s : List UInt8) : Prop := s ≠ [] ∧ ∀ a : Att, a.Ok → ∀ r, s ≠ aText a ++ 10 :: r
/-- The text is the lines of as, and then a rest: none, or one that begins with a line that is wrong. -/
structure PRel (s : List UInt8) (as : List Att) (r : List UInt8) : Prop where
  eq : s = lines as ++ r
  ok : AllOk as
  bad : r = [] ∨ BadLine r
theorem PRel.uniq {as as' : List Att} {s r r' : List UInt8} (h : PRel s as r) (h' : PRel s as' r') : as = as' ∧ r = r' := by
  induction as generalizing as' s with
  | nil =>
    have e : s = r := h.eq
    cases as' with
    | nil => exact ⟨rfl, e.symm.trans h'.eq⟩
    | cons a as' =>
      have e2 := h'.eq
      rw [lines_cons] at e2
      rcases h.bad with hr | hr
      · rw [e2, hr] at e; simp at e
      · exact absurd (by rw [← e, e2]; simp) (hr.2 a (h'.ok a (by simp)) (lines as' ++ r'))
  | cons a as ih =>
    have e := h.eq
    rw [lines_cons] at e
    cases as' with
    | nil =>
      have e2 : s = r' := h'.eq
      rcases h'.bad with hr | hr
      · rw [e, hr] at e2; simp at e2
      · exact absurd (by rw [← e2, e]; simp) (hr.2 a (h.ok a (by simp)) (lines as ++ r))
    | cons b as' =>
      have e2 := h'.eq
      rw [lines_cons] at e2
      rw [e] at e2
      simp only [List.append_assoc, List.cons_append] at e2
      obtain ⟨e3, e4⟩ := split_eq (aText_ne (by decide) a) (aText_ne (by decide) b) e2
      have e5 := aText_inj (h.ok a (by simp)) (h'.ok b (by simp)) e3
      obtain ⟨e6, e7⟩ := ih (as' := as') (s := lines as ++ r) ⟨rfl, fun c hc => h.ok c (by simp [hc]), h.bad⟩ ⟨e4, fun c hc => h'.ok c (by simp [hc]), h'.bad⟩
      exact ⟨by rw [e5, e6], e7⟩
theorem prel_lines {l : List Att} (h : AllOk l) : PRel (lines l) l [] := ⟨by simp, h, .inl rfl⟩
/-- One line more. -/
theorem bad_of_line {s x r : List UInt8} (hs : s = x ++ 10 :: r) (hx : ∀ b ∈ x, b ≠ 10) (h : ∀ a : Att, a.Ok → x ≠ aText a) : BadLine s := by
  refine ⟨by rw [hs]; simp, fun a ha r' e => ?_⟩
  rw [hs] at e
  obtain ⟨e1, _⟩ := split_eq hx (aText_ne (by decide) a) e
  exact h a ha e1
theorem bad_of_end {s : List UInt8} (hs : s ≠ []) (hx : ∀ b ∈ s, b ≠ 10) : BadLine s :=
  ⟨hs, fun a _ r' e => hx 10 (by rw [e]; simp) rfl⟩

/-! ### what is told of a resource -/
/-- The attempt is one for the resource. -/
def Att.is (a : Att) (k i g : Int) : Bool := decide (a.k = k ∧ a.i = i ∧ a.g = g)
/-- The attempts for a resource. -/
def ofL (l : List Att) (k i g : Int) : List Att := l.filter fun a => a.is k i g
/-- Their places, counted from b on. -/
def plF (b : Nat) : List Att → Int → Int → Int → List Nat
  | [], _, _, _ => []
  | a :: l, k, i, g => if a.is k i g then b :: plF (b + 1) l k i g else plF (b + 1) l k i g
def pl (l : List Att) (k i g : Int) : List Nat := plF 0 l k i g
theorem plF_append (b : Nat) (l m : List Att) (k i g : Int) : plF b (l ++ m) k i g = plF b l k i g ++ plF (b + l.length) m k i g := by
  induction l generalizing b with
  | nil => simp [plF]
  | cons a l ih =>
    simp only [List.cons_append, plF, List.length_cons]
    rw [ih, show b + 1 + l.length = b + (l.length + 1) by omega]
    split <;> simp
theorem pl_snoc (l : List Att) (a : Att) (k i g : Int) : pl (l ++ [a]) k i g = pl l k i g ++ (if a.is k i g then [l.length] else []) := by
  unfold pl
  rw [plF_append]
  simp [plF]
theorem plF_len (b : Nat) (l : List Att) (k i g : Int) : (plF b l k i g).length = (ofL l k i g).length := by
  induction l generalizing b with
  | nil => rfl
  | cons a l ih =>
    have ih := ih (b + 1)
    unfold ofL at ih
    simp only [plF, ofL, List.filter_cons]
    split
    · simp [ih]
    · exact ih
theorem pl_len (l : List Att) (k i g : Int) : (pl l k i g).length = (ofL l k i g).length := plF_len 0 l k i g
theorem plF_at (b : Nat) (l : List Att) (k i g : Int) (j : Nat) (h : j < (plF b l k i g).length) : ∃ p, (plF b l k i g)[j] = b + p ∧ ∃ hp : p < l.length, ∃ hj : j < (ofL l k i g).length, l[p] = (ofL l k i g)[j] := by
  induction l generalizing b j with
  | nil => simp [plF] at h
  | cons a l ih =>
    by_cases ha : a.is k i g
    · have e1 : plF b (a :: l) k i g = b :: plF (b + 1) l k i g := by simp [plF, ha]
      have e2 : ofL (a :: l) k i g = a :: ofL l k i g := by simp [ofL, ha]
      cases j with
      | zero => exact ⟨0, by simp [e1], by simp, by simp [e2], by simp [e2]⟩
      | succ j =>
        have h' : j < (plF (b + 1) l k i g).length := by rw [e1] at h; simpa using h
        obtain ⟨p, h1, h2, h3, h4⟩ := ih (b + 1) j h'
        exact ⟨p + 1, by simp only [e1, List.getElem_cons_succ, h1]; omega, by simp; omega, by rw [e2]; simp; omega, by simp [e2, h4]⟩
    · have e1 : plF b (a :: l) k i g = plF (b + 1) l k i g := by simp [plF, ha]
      have e2 : ofL (a :: l) k i g = ofL l k i g := by simp [ofL, ha]
      have h' : j < (plF (b + 1) l k i g).length := by rw [e1] at h; exact h
      obtain ⟨p, h1, h2, h3, h4⟩ := ih (b + 1) j h'
      exact ⟨p + 1, by simp only [e1, h1]; omega, by simp; omega, by rw [e2]; exact h3, by simp [e2, h4]⟩
theorem pl_at (l : List Att) (k i g : Int) (j : Nat) (h : j < (pl l k i g).length) : ∃ hp : (pl l k i g)[j] < l.length, ∃ hj : j < (ofL l k i g).length, l[(pl l k i g)[j]] = (ofL l k i g)[j] := by
  obtain ⟨p, h1, h2, h3, h4⟩ := plF_at 0 l k i g j h
  have e : (pl l k i g)[j] = p := by unfold pl; omega
  exact ⟨by omega, h3, by simp only [e]; exact h4⟩
theorem ofL_snoc (l : List Att) (a : Att) (k i g : Int) : ofL (l ++ [a]) k i g = ofL l k i g ++ (if a.is k i g then [a] else []) := by
  simp [ofL, List.filter_append, List.filter_cons]
theorem ofL_le (l : List Att) (k i g : Int) : (ofL l k i g).length ≤ l.length := List.length_filter_le _ _
theorem ofL_sub {l : List Att} {k i g : Int} {a : Att} (h : a ∈ ofL l k i g) : a ∈ l := (List.mem_filter.1 h).1
/-- The zero attempt. -/
def att0 : Att := ⟨0, 0, 0, 0, 0, 0⟩
/-- The first attempt of a list, and whether there is one. -/
def firstOf (l : List Att) : Att := l.headD att0
/-- The first answer that is not 'later'. -/
def endOf (l : List Att) : Int := match l.find? (fun a => decide (a.n ≠ 2)) with | some a => a.n | none => 0
def isEnd (l : List Att) : Bool := (l.find? (fun a => decide (a.n ≠ 2))).isSome
end Go.Proofs.YtenggngcigkakaaGreatDoor
