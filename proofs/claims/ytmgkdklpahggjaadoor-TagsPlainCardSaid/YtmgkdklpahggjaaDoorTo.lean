/- Plain mathematics: the order of texts by their bytes is that by their runes; it is an order. Nothing of the program. -/
import Derived.Test.YtmgkdklpahggjaaDoorTn
namespace Go.Proofs.YtmgkdklpahggjaaDoor
open Go.Lib

/-- The order of lists of numbers: the first that differ decide; a beginning comes first. -/
def cmpN : List Nat → List Nat → Int
  | [], [] => 0
  | [], _ :: _ => -1
  | _ :: _, [] => 1
  | a :: as, b :: bs => if a < b then -1 else if b < a then 1 else cmpN as bs

theorem u8lt {a b : Nat} (hb : b < 256) (h : a < b) : UInt8.ofNat a < UInt8.ofNat b := by
  rw [UInt8.lt_iff_toNat_lt, u8nat (by omega), u8nat hb]; exact h
theorem cmp_less (a b : Nat) (x y : List UInt8) (h : a < b) (hb : b < 256) : compareBytes (UInt8.ofNat a :: x) (UInt8.ofNat b :: y) = -1 := by
  rw [compareBytes, if_pos (u8lt hb h)]
theorem cmp_same (a : UInt8) (x y : List UInt8) : compareBytes (a :: x) (a :: y) = compareBytes x y := by
  have h : ¬ a < a := by rw [UInt8.lt_iff_toNat_lt]; omega
  rw [compareBytes, if_neg h, if_neg h]
theorem cmp_same' (a b : Nat) (x y : List UInt8) (h : a = b) : compareBytes (UInt8.ofNat a :: x) (UInt8.ofNat b :: y) = compareBytes x y := by
  subst h; exact cmp_same _ _ _
theorem cmp_app (c x y : List UInt8) : compareBytes (c ++ x) (c ++ y) = compareBytes x y := by
  induction c with
  | nil => rfl
  | cons a c ih => rw [List.cons_append, List.cons_append, cmp_same, ih]
theorem cmp_swap : ∀ l m : List UInt8, compareBytes m l = - compareBytes l m
  | [], [] => rfl
  | [], _ :: _ => rfl
  | _ :: _, [] => rfl
  | a :: l, b :: m => by
    simp only [compareBytes]
    by_cases h : a < b
    · have h' : ¬ b < a := by rw [UInt8.lt_iff_toNat_lt] at *; omega
      rw [if_pos h, if_neg h', if_pos h]; rfl
    · by_cases h' : b < a
      · rw [if_pos h', if_neg h, if_pos h']
      · rw [if_neg h, if_neg h', if_neg h, if_neg h', cmp_swap l m]
theorem cmp_vals : ∀ l m : List UInt8, compareBytes l m = -1 ∨ compareBytes l m = 0 ∨ compareBytes l m = 1
  | [], [] => .inr (.inl rfl)
  | [], _ :: _ => .inl rfl
  | _ :: _, [] => .inr (.inr rfl)
  | a :: l, b :: m => by
    simp only [compareBytes]
    split
    · exact .inl rfl
    · split
      · exact .inr (.inr rfl)
      · exact cmp_vals l m
theorem cmp_refl : ∀ l : List UInt8, compareBytes l l = 0
  | [] => rfl
  | a :: l => by rw [cmp_same]; exact cmp_refl l
theorem cmp_zero : ∀ l m : List UInt8, compareBytes l m = 0 → l = m
  | [], [], _ => rfl
  | [], _ :: _, h => absurd h (by simp [compareBytes])
  | _ :: _, [], h => absurd h (by simp [compareBytes])
  | a :: l, b :: m, h => by
    simp only [compareBytes] at h
    split at h
    · exact absurd h (by decide)
    · split at h
      · exact absurd h (by decide)
      · rename_i h1 h2
        have e : a = b := u8eq (by rw [UInt8.lt_iff_toNat_lt] at h1 h2; omega)
        rw [e, cmp_zero l m h]
theorem cmp_trans : ∀ l m n : List UInt8, compareBytes l m = -1 → compareBytes m n = -1 → compareBytes l n = -1
  | _, [], [], _, h => absurd h (by simp [compareBytes])
  | _, _ :: _, [], _, h => absurd h (by simp [compareBytes])
  | [], [], _ :: _, h, _ => absurd h (by simp [compareBytes])
  | _ :: _, [], _ :: _, h, _ => absurd h (by simp [compareBytes])
  | [], _ :: _, _ :: _, _, _ => rfl
  | a :: l, b :: m, c :: n, h1, h2 => by
    simp only [compareBytes] at h1 h2 ⊢
    simp only [UInt8.lt_iff_toNat_lt] at h1 h2 ⊢
    by_cases hab : a.toNat < b.toNat
    · by_cases hbc : b.toNat < c.toNat
      · rw [if_pos (by omega)]
      · rw [if_neg hbc] at h2
        by_cases hcb : c.toNat < b.toNat
        · rw [if_pos hcb] at h2; exact absurd h2 (by decide)
        · rw [if_pos (by omega)]
    · rw [if_neg hab] at h1
      by_cases hba : b.toNat < a.toNat
      · rw [if_pos hba] at h1; exact absurd h1 (by decide)
      · rw [if_neg hba] at h1
        by_cases hbc : b.toNat < c.toNat
        · rw [if_pos (by omega)]
        · rw [if_neg hbc] at h2
          by_cases hcb : c.toNat < b.toNat
          · rw [if_pos hcb] at h2; exact absurd h2 (by decide)
          · rw [if_neg hcb] at h2
            rw [if_neg (by omega), if_neg (by omega)]
            exact cmp_trans l m n h1 h2

/-- The bytes of the lesser rune come first. -/
theorem enc_lt (r t : Nat) (ht : OkRune t) (h : r < t) (x y : List UInt8) : compareBytes (encR r ++ x) (encR t ++ y) = -1 := by
  have hle := okRune_le ht
  by_cases t1 : t < 128
  · rw [encR_1 (by omega), encR_1 t1]
    exact cmp_less _ _ _ _ h (by omega)
  by_cases t2 : t < 2048
  · rw [encR_2 (by omega) t2]
    by_cases r1 : r < 128
    · rw [encR_1 r1]; exact cmp_less _ _ _ _ (by omega) (by omega)
    · rw [encR_2 (by omega) (by omega)]
      simp only [List.cons_append, List.nil_append]
      by_cases e : r / 64 < t / 64
      · exact cmp_less _ _ _ _ (by omega) (by omega)
      · rw [cmp_same' _ _ _ _ (by omega)]; exact cmp_less _ _ _ _ (by omega) (by omega)
  by_cases t3 : t < 65536
  · rw [encR_3 (by omega) t3]
    by_cases r1 : r < 128
    · rw [encR_1 r1]; exact cmp_less _ _ _ _ (by omega) (by omega)
    by_cases r2 : r < 2048
    · rw [encR_2 (by omega) r2]; exact cmp_less _ _ _ _ (by omega) (by omega)
    · rw [encR_3 (by omega) (by omega)]
      simp only [List.cons_append, List.nil_append]
      by_cases e : r / 4096 < t / 4096
      · exact cmp_less _ _ _ _ (by omega) (by omega)
      · rw [cmp_same' _ _ _ _ (by omega)]
        by_cases e2 : r / 64 % 64 < t / 64 % 64
        · exact cmp_less _ _ _ _ (by omega) (by omega)
        · rw [cmp_same' _ _ _ _ (by omega)]; exact cmp_less _ _ _ _ (by omega) (by omega)
  · rw [encR_4 (r := t) (by omega)]
    by_cases r1 : r < 128
    · rw [encR_1 r1]; exact cmp_less _ _ _ _ (by omega) (by omega)
    by_cases r2 : r < 2048
    · rw [encR_2 (by omega) r2]; exact cmp_less _ _ _ _ (by omega) (by omega)
    by_cases r3 : r < 65536
    · rw [encR_3 (by omega) r3]; exact cmp_less _ _ _ _ (by omega) (by omega)
    · rw [encR_4 (r := r) (by omega)]
      simp only [List.cons_append, List.nil_append]
      by_cases e : r / 262144 < t / 262144
      · exact cmp_less _ _ _ _ (by omega) (by omega)
      · rw [cmp_same' _ _ _ _ (by omega)]
        by_cases e1 : r / 4096 % 64 < t / 4096 % 64
        · exact cmp_less _ _ _ _ (by omega) (by omega)
        · rw [cmp_same' _ _ _ _ (by omega)]
          by_cases e2 : r / 64 % 64 < t / 64 % 64
          · exact cmp_less _ _ _ _ (by omega) (by omega)
          · rw [cmp_same' _ _ _ _ (by omega)]; exact cmp_less _ _ _ _ (by omega) (by omega)
/-- By bytes is by runes. -/
theorem cmp_utf {l m : List UInt8} {rs ts : List Nat} (hl : Utf l rs) (hm : Utf m ts) : compareBytes l m = cmpN rs ts := by
  induction rs generalizing l m ts with
  | nil =>
    rw [show l = [] from hl.2]
    cases ts with
    | nil => rw [show m = [] from hm.2]; rfl
    | cons t ts =>
      obtain ⟨k, _, rfl, _⟩ := utf_inv hm
      cases h : encR t ++ k with
      | nil => exact absurd (List.append_eq_nil_iff.1 h).1 (encR_ne t)
      | cons => rfl
  | cons r rs ih =>
    obtain ⟨j, hr, rfl, hj⟩ := utf_inv hl
    cases ts with
    | nil =>
      rw [show m = [] from hm.2]
      cases h : encR r ++ j with
      | nil => exact absurd (List.append_eq_nil_iff.1 h).1 (encR_ne r)
      | cons => rfl
    | cons t ts =>
      obtain ⟨k, ht, rfl, hk⟩ := utf_inv hm
      rw [cmpN]
      by_cases h : r < t
      · rw [if_pos h, enc_lt r t ht h]
      · by_cases h' : t < r
        · rw [if_neg h, if_pos h', cmp_swap, enc_lt t r hr h']; rfl
        · obtain rfl : r = t := by omega
          rw [if_neg h, if_neg h, cmp_app, ih hj hk]

/-! ### the order of texts, tags or not -/
open Classical in
noncomputable def ordT (a b : List UInt8) : Int :=
  if (∃ rs, Tag a rs) then (if (∃ ts, Tag b ts) then compareBytes a b else 1) else (if (∃ ts, Tag b ts) then -1 else 0)
theorem ordT_both {a b : List UInt8} {rs ts : List Nat} (ha : Tag a rs) (hb : Tag b ts) : ordT a b = compareBytes a b := by
  unfold ordT; rw [if_pos ⟨rs, ha⟩, if_pos ⟨ts, hb⟩]
theorem ordT_left {a b : List UInt8} {rs : List Nat} (ha : Tag a rs) (hb : NoTag b) : ordT a b = 1 := by
  unfold ordT; rw [if_pos ⟨rs, ha⟩, if_neg fun ⟨ts, h⟩ => hb ts h]
theorem ordT_right {a b : List UInt8} {ts : List Nat} (ha : NoTag a) (hb : Tag b ts) : ordT a b = -1 := by
  unfold ordT; rw [if_neg fun ⟨ts, h⟩ => ha ts h, if_pos ⟨ts, hb⟩]
theorem ordT_none {a b : List UInt8} (ha : NoTag a) (hb : NoTag b) : ordT a b = 0 := by
  unfold ordT; rw [if_neg fun ⟨ts, h⟩ => ha ts h, if_neg fun ⟨ts, h⟩ => hb ts h]
theorem ordT_vals (a b : List UInt8) : ordT a b = -1 ∨ ordT a b = 0 ∨ ordT a b = 1 := by
  rcases tag_dec a with ⟨rs, ha⟩ | ha <;> rcases tag_dec b with ⟨ts, hb⟩ | hb
  · rw [ordT_both ha hb]; exact cmp_vals a b
  · rw [ordT_left ha hb]; exact .inr (.inr rfl)
  · rw [ordT_right ha hb]; exact .inl rfl
  · rw [ordT_none ha hb]; exact .inr (.inl rfl)
theorem ordT_swap (a b : List UInt8) : ordT b a = - ordT a b := by
  rcases tag_dec a with ⟨rs, ha⟩ | ha <;> rcases tag_dec b with ⟨ts, hb⟩ | hb
  · rw [ordT_both ha hb, ordT_both hb ha, cmp_swap]
  · rw [ordT_left ha hb, ordT_right hb ha]
  · rw [ordT_right ha hb, ordT_left hb ha]; rfl
  · rw [ordT_none ha hb, ordT_none hb ha]; rfl
theorem ordT_self (a : List UInt8) : ordT a a = 0 := by
  rcases tag_dec a with ⟨rs, ha⟩ | ha
  · rw [ordT_both ha ha, cmp_refl]
  · rw [ordT_none ha ha]
theorem cmp_le_trans (l m n : List UInt8) (h1 : compareBytes l m ≤ 0) (h2 : compareBytes m n ≤ 0) : compareBytes l n ≤ 0 ∧ (compareBytes l n = 0 → compareBytes l m = 0 ∧ compareBytes m n = 0) := by
  rcases cmp_vals l m with a | a | a <;> rcases cmp_vals m n with b | b | b <;> try omega
  · rw [cmp_trans l m n a b]; omega
  · obtain rfl := cmp_zero m n b; omega
  · obtain rfl := cmp_zero l m a; omega
  · obtain rfl := cmp_zero l m a; omega
theorem ordT_trans (a b c : List UInt8) (h1 : ordT a b ≤ 0) (h2 : ordT b c ≤ 0) : ordT a c ≤ 0 ∧ (ordT a c = 0 → ordT a b = 0 ∧ ordT b c = 0) := by
  rcases tag_dec a with ⟨rs, ha⟩ | ha <;> rcases tag_dec b with ⟨ts, hb⟩ | hb <;> rcases tag_dec c with ⟨us, hc⟩ | hc
  · rw [ordT_both ha hb] at *; rw [ordT_both hb hc] at *; rw [ordT_both ha hc]; exact cmp_le_trans a b c h1 h2
  · rw [ordT_left hb hc] at h2; omega
  · rw [ordT_left ha hb] at h1; omega
  · rw [ordT_left ha hb] at h1; omega
  · rw [ordT_right ha hc]; omega
  · rw [ordT_left hb hc] at h2; omega
  · rw [ordT_right ha hc]; omega
  · rw [ordT_none ha hc, ordT_none ha hb, ordT_none hb hc]; omega
end Go.Proofs.YtmgkdklpahggjaaDoor
