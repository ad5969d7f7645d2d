/- Plain mathematics of sets of bits: a word out of 64 answers, its bits, the numbers of a set in order. -/
import Derived.Lib.TrailingZeros
namespace Go.Proofs.YtaenemdclmnnaaaDoor

/-- The number whose bits below k are g's. -/
def natOf (g : Nat → Bool) : Nat → Nat
  | 0 => 0
  | k + 1 => natOf g k + if g k then 2 ^ k else 0

theorem natOf_lt (g : Nat → Bool) : ∀ k, natOf g k < 2 ^ k
  | 0 => by simp [natOf]
  | k + 1 => by
    have h := natOf_lt g k
    unfold natOf
    rw [Nat.pow_succ]
    split <;> omega
theorem natOf_testBit (g : Nat → Bool) : ∀ k j, (natOf g k).testBit j = (decide (j < k) && g j)
  | 0, j => by simp [natOf]
  | k + 1, j => by
    have h := natOf_testBit g k j
    have hl := natOf_lt g k
    unfold natOf
    by_cases hg : g k = true
    · rw [if_pos hg, Nat.add_comm]
      have e : 2 ^ k + natOf g k = 2 ^ k * 1 + natOf g k := by omega
      rw [e, Nat.testBit_two_pow_mul_add _ hl]
      by_cases h1 : j < k
      · rw [if_pos h1, h]; simp [h1, Nat.lt_succ_of_lt h1]
      · rw [if_neg h1]
        by_cases h2 : j = k
        · subst h2; simp [hg]
        · have h3 : ¬ j < k + 1 := by omega
          have h4 : j - k ≠ 0 := by omega
          obtain ⟨d, hd⟩ : ∃ d, j - k = d + 1 := ⟨j - k - 1, by omega⟩
          rw [hd, Nat.testBit_succ]
          simp [h3]
    · rw [if_neg hg, Nat.add_zero, h]
      by_cases h2 : j = k
      · subst h2; simp [hg]
      · have : decide (j < k + 1) = decide (j < k) := by rw [decide_eq_decide]; omega
        rw [this]

/-- The i-th word of the set of the numbers that f has. -/
def word (f : Nat → Bool) (i : Nat) : Nat := natOf (fun j => f (64 * i + j)) 64
theorem word_lt (f : Nat → Bool) (i : Nat) : word f i < 2 ^ 64 := natOf_lt _ _
theorem word_lt' (f : Nat → Bool) (i : Nat) : word f i < 18446744073709551616 := word_lt f i
theorem word_bit (f : Nat → Bool) (i j : Nat) : (word f i).testBit j = (decide (j < 64) && f (64 * i + j)) := natOf_testBit _ _ _
theorem word_eq {f : Nat → Bool} {i x : Nat} (hx : x < 2 ^ 64) (h : ∀ j, j < 64 → x.testBit j = f (64 * i + j)) : x = word f i := by
  apply Nat.eq_of_testBit_eq
  intro j
  rw [word_bit]
  by_cases hj : j < 64
  · simp [hj, h j hj]
  · have : x < 2 ^ j := Nat.lt_of_lt_of_le hx (Nat.pow_le_pow_right (by decide) (by omega))
    rw [Nat.testBit_lt_two_pow this]; simp [hj]
theorem word_congr {f h : Nat → Bool} {i : Nat} (e : ∀ j, j < 64 → f (64 * i + j) = h (64 * i + j)) : word f i = word h i :=
  word_eq (word_lt _ _) fun j hj => by rw [word_bit]; simp [hj, e j hj]
theorem word_none (i : Nat) : word (fun _ => false) i = 0 := (word_eq (by decide) fun j _ => by simp).symm

/-- f, but for k, where it is b. -/
def upd (f : Nat → Bool) (k : Nat) (b : Bool) : Nat → Bool := fun i => if i = k then b else f i
theorem upd_same (f : Nat → Bool) (k : Nat) (b : Bool) : upd f k b k = b := by simp [upd]
theorem upd_other {f : Nat → Bool} {k i : Nat} {b : Bool} (h : i ≠ k) : upd f k b i = f i := by simp [upd, h]

theorem word_far {f : Nat → Bool} {k i : Nat} {b : Bool} (h : i ≠ k / 64) : word (upd f k b) i = word f i :=
  word_congr fun j hj => upd_other (by omega)
theorem pow_lt {k : Nat} (h : k < 64) : 2 ^ k < 2 ^ 64 := Nat.pow_lt_pow_right (by decide) h
theorem word_add (f : Nat → Bool) (k : Nat) : word f (k / 64) ||| 2 ^ (k % 64) = word (upd f k true) (k / 64) := by
  apply word_eq (Nat.or_lt_two_pow (word_lt _ _) (pow_lt (Nat.mod_lt _ (by decide))))
  intro j hj
  rw [Nat.testBit_or, word_bit, Nat.testBit_two_pow]
  by_cases h : 64 * (k / 64) + j = k
  · have : k % 64 = j := by omega
    rw [h, upd_same]; simp [this]
  · have : ¬ k % 64 = j := by omega
    rw [upd_other h]; simp [this, hj]
/-- Word a without the bits of b: Go's a &^ b. -/
theorem word_sub {f h g : Nat → Bool} {i x : Nat} (hx : x < 2 ^ 64) (e : ∀ j, j < 64 → x.testBit j = ((word f i).testBit j && !(word h i).testBit j)) (eg : ∀ j, j < 64 → g (64 * i + j) = (f (64 * i + j) && !h (64 * i + j))) : x = word g i :=
  word_eq hx fun j hj => by rw [e j hj, word_bit, word_bit, eg j hj]; simp [hj]
theorem word_or (f h : Nat → Bool) (i : Nat) : word f i ||| word h i = word (fun k => f k || h k) i :=
  word_eq (Nat.or_lt_two_pow (word_lt _ _) (word_lt _ _)) fun j hj => by rw [Nat.testBit_or, word_bit, word_bit]; simp [hj]
theorem word_has (f : Nat → Bool) (k : Nat) : word f (k / 64) &&& 2 ^ (k % 64) = if f k then 2 ^ (k % 64) else 0 := by
  apply Nat.eq_of_testBit_eq
  intro j
  rw [Nat.testBit_and, word_bit, Nat.testBit_two_pow]
  by_cases h : k % 64 = j
  · have e : 64 * (k / 64) + j = k := by omega
    have hj : j < 64 := by omega
    rw [e]
    by_cases hf : f k = true <;> simp [hf, h, hj, Nat.testBit_two_pow]
  · by_cases hf : f k = true <;> simp [hf, h, Nat.testBit_two_pow]

/-! ### the bits of a word, in order -/
def bitsOf (x : Nat) : List Nat := (List.range 64).filter x.testBit
theorem bitsOf_zero : bitsOf 0 = [] := by simp [bitsOf]
theorem bitsOf_len (x : Nat) : (bitsOf x).length ≤ 64 := by
  have := List.length_filter_le x.testBit (List.range 64)
  simpa [bitsOf] using this

theorem filter_head {p : Nat → Bool} {n k : Nat} (hk : k < n) (hp : p k = true) (hlow : ∀ j, j < k → p j = false) :
    (List.range n).filter p = k :: (List.range n).filter (fun j => p j && !decide (j = k)) := by
  have e : List.range n = List.range k ++ (k :: List.range' (k + 1) (n - k - 1)) := by
    rw [List.range_eq_range', List.range_eq_range']
    have : n = k + (1 + (n - k - 1)) := by omega
    rw [this, ← List.range'_append_1, Nat.add_comm 1, List.range'_succ]
    have : k + (n - k - 1 + 1) - k - 1 = n - k - 1 := by omega
    rw [this]
    simp
  rw [e, List.filter_append, List.filter_append]
  have h1 : (List.range k).filter p = [] := by
    rw [List.filter_eq_nil_iff]; intro a ha; rw [hlow a (List.mem_range.1 ha)]; simp
  have h2 : (List.range k).filter (fun j => p j && !decide (j = k)) = [] := by
    rw [List.filter_eq_nil_iff]; intro a ha; rw [hlow a (List.mem_range.1 ha)]; simp
  rw [h1, h2, List.nil_append, List.nil_append, List.filter_cons, if_pos hp, List.filter_cons, if_neg (by simp)]
  congr 1
  apply List.filter_congr
  intro a ha
  have := (List.mem_range'_1.1 ha).1
  have : ¬ a = k := by omega
  simp [this]

theorem low_bit {x : Nat} (h0 : x ≠ 0) (hx : x < 2 ^ 64) : Lib.ctz 64 x < 64 ∧ x.testBit (Lib.ctz 64 x) = true ∧ (∀ j, j < Lib.ctz 64 x → x.testBit j = false) ∧
    ∀ j, (x &&& (x - 1)).testBit j = (x.testBit j && !decide (j = Lib.ctz 64 x)) := by
  obtain ⟨m, hm, hk⟩ := Lib.ctzFrom_spec 64 x (by omega) hx
  have e : Lib.ctz 64 x = Lib.ctzFrom 64 x := by simp [Lib.ctz, h0]
  rw [e]
  generalize Lib.ctzFrom 64 x = k at *
  have hp : 0 < 2 ^ k := Nat.two_pow_pos k
  have e1 : x - 1 = 2 ^ k * (2 * m) + (2 ^ k - 1) := by
    rw [hm, Nat.mul_add, Nat.mul_one]; omega
  have e2 : x = 2 ^ k * (2 * m + 1) + 0 := by rw [Nat.add_zero]; exact hm
  have b1 : ∀ j, x.testBit j = if j < k then false else (2 * m + 1).testBit (j - k) := by
    intro j
    rw [e2, Nat.testBit_two_pow_mul_add _ hp]
    simp
  have b2 : ∀ j, (x - 1).testBit j = if j < k then (2 ^ k - 1).testBit j else (2 * m).testBit (j - k) := by
    intro j
    rw [e1, Nat.testBit_two_pow_mul_add _ (by omega)]
  refine ⟨hk, ?_, ?_, ?_⟩
  · rw [b1, if_neg (by omega), Nat.sub_self]; simp
  · intro j hj; rw [b1, if_pos hj]
  · intro j
    rw [Nat.testBit_and, b1, b2]
    by_cases hj : j < k
    · simp [hj]
    · rw [if_neg hj, if_neg hj]
      by_cases hj2 : j = k
      · subst hj2; simp
      · obtain ⟨d, hd⟩ : ∃ d, j - k = d + 1 := ⟨j - k - 1, by omega⟩
        have hne : decide (j = k) = false := by simp [hj2]
        rw [hd, Nat.testBit_succ, Nat.testBit_succ, hne]
        have d1 : (2 * m + 1) / 2 = m := by omega
        have d2 : 2 * m / 2 = m := by omega
        rw [d1, d2]; simp

theorem bitsOf_step {x : Nat} (h0 : x ≠ 0) (hx : x < 2 ^ 64) : bitsOf x = Lib.ctz 64 x :: bitsOf (x &&& (x - 1)) := by
  obtain ⟨h1, h2, h3, h4⟩ := low_bit h0 hx
  unfold bitsOf
  rw [filter_head h1 h2 h3]
  congr 1
  apply List.filter_congr
  intro a _
  rw [h4 a]
theorem and_pred_lt {x : Nat} (h0 : x ≠ 0) : x &&& (x - 1) < x := by
  have : x &&& (x - 1) ≤ x - 1 := Nat.and_le_right
  omega
theorem ctz_lt {x : Nat} (h0 : x ≠ 0) (hx : x < 2 ^ 64) : Lib.ctz 64 x < 64 := (low_bit h0 hx).1

/-! ### the numbers of a set, in order -/
def lst (f : Nat → Bool) (n : Nat) : List Nat := (List.range n).filter f
/-- The numbers in the words from the w-th to the m-th. -/
def seqW (f : Nat → Bool) (w m : Nat) : List Nat := (List.range' w (m - w)).flatMap fun i => (bitsOf (word f i)).map (64 * i + ·)
theorem seqW_done (f : Nat → Bool) {w m : Nat} (h : m ≤ w) : seqW f w m = [] := by
  have : m - w = 0 := by omega
  simp [seqW, this]
theorem seqW_step (f : Nat → Bool) {w m : Nat} (h : w < m) : seqW f w m = (bitsOf (word f w)).map (64 * w + ·) ++ seqW f (w + 1) m := by
  have e : m - w = (m - (w + 1)) + 1 := by omega
  unfold seqW
  rw [e, List.range'_succ, List.flatMap_cons]
theorem bitsOf_word (f : Nat → Bool) (i : Nat) : (bitsOf (word f i)).map (64 * i + ·) = (List.range' (64 * i) 64).filter f := by
  have e : List.range' (64 * i) 64 = (List.range 64).map (64 * i + ·) := by
    rw [List.range_eq_range', List.map_add_range']; simp
  rw [e, List.filter_map]
  congr 1
  unfold bitsOf
  apply List.filter_congr
  intro a ha
  rw [word_bit]
  simp [List.mem_range.1 ha]
theorem seqW_eq (f : Nat → Bool) (m : Nat) : ∀ d w, m = w + d → seqW f w m = (List.range' (64 * w) (64 * d)).filter f
  | 0, w, h => by rw [seqW_done f (by omega)]; simp
  | d + 1, w, h => by
    rw [seqW_step f (by omega), seqW_eq f m d (w + 1) (by omega), bitsOf_word, ← List.filter_append]
    have e : 64 * (d + 1) = 64 + 64 * d := by omega
    have e2 : 64 * (w + 1) = 64 * w + 64 := by omega
    rw [e, e2, ← List.range'_append_1]
theorem lst_more {f : Nat → Bool} {n m : Nat} (h : n ≤ m) (hf : ∀ k, n ≤ k → f k = false) : lst f m = lst f n := by
  unfold lst
  have e : List.range m = List.range n ++ List.range' n (m - n) := by
    rw [List.range_eq_range', List.range_eq_range']
    have : m = n + (m - n) := by omega
    rw [this, ← List.range'_append_1]
    simp
  rw [e, List.filter_append]
  have : (List.range' n (m - n)).filter f = [] := by
    rw [List.filter_eq_nil_iff]; intro a ha; rw [hf a (List.mem_range'_1.1 ha).1]; simp
  rw [this, List.append_nil]
theorem seqW_all {f : Nat → Bool} {n m : Nat} (h : n ≤ 64 * m) (hf : ∀ k, n ≤ k → f k = false) : seqW f 0 m = lst f n := by
  rw [seqW_eq f m m 0 (by omega), Nat.mul_zero, ← List.range_eq_range']
  exact lst_more h hf
/-- The numbers from some on: those of the words from its own on. -/
theorem seqW_from {f : Nat → Bool} {n m w fr : Nat} (h : n ≤ 64 * m) (hf : ∀ k, n ≤ k → f k = false) (hw : 64 * w ≤ fr) :
    (seqW f w m).filter (fun k => decide (fr ≤ k)) = (lst f n).filter (fun k => decide (fr ≤ k)) := by
  rw [← seqW_all h hf]
  by_cases hwm : w ≤ m
  · have e : seqW f 0 m = seqW f 0 w ++ seqW f w m := by
      rw [seqW_eq f m m 0 (by omega), seqW_eq f w w 0 (by omega), seqW_eq f m (m - w) w (by omega), ← List.filter_append]
      congr 1
      have : 64 * m = 64 * w + 64 * (m - w) := by omega
      rw [this, ← List.range'_append_1]
      simp
    rw [e, List.filter_append]
    have : (seqW f 0 w).filter (fun k => decide (fr ≤ k)) = [] := by
      rw [List.filter_eq_nil_iff]
      intro a ha
      rw [seqW_eq f w w 0 (by omega)] at ha
      have := (List.mem_range'_1.1 (List.mem_filter.1 ha).1).2
      simp; omega
    rw [this, List.nil_append]
  · rw [seqW_done f (by omega)]
    symm
    rw [List.filter_nil, List.filter_eq_nil_iff]
    intro a ha
    rw [seqW_eq f m m 0 (by omega)] at ha
    have := (List.mem_range'_1.1 (List.mem_filter.1 ha).1).2
    simp; omega
theorem lst_len (f : Nat → Bool) (n : Nat) : (lst f n).length ≤ n := by
  have := List.length_filter_le f (List.range n)
  simpa [lst] using this
theorem lst_mem {f : Nat → Bool} {n k : Nat} : k ∈ lst f n ↔ k < n ∧ f k = true := by simp [lst]
theorem lst_snoc (f : Nat → Bool) (n : Nat) : lst f (n + 1) = lst f n ++ if f n then [n] else [] := by
  unfold lst
  rw [List.range_succ, List.filter_append]
  congr 1
  by_cases h : f n = true <;> simp [h]
theorem lst_congr {f h : Nat → Bool} {n : Nat} (e : ∀ k, k < n → f k = h k) : lst f n = lst h n :=
  List.filter_congr fun a ha => e a (List.mem_range.1 ha)
end Go.Proofs.YtaenemdclmnnaaaDoor
