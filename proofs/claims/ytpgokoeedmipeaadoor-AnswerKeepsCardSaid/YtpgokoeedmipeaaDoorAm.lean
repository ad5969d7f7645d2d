/- Mathematics of answers: what a letter says, texts of answers, what a source does. -/
import Derived.Test.YtpgokoeedmipeaaDoorRows
namespace Go.Proofs.YtpgokoeedmipeaaDoor

theorem size_data (s : ByteArray) : s.size = s.data.toList.length := by rw [Array.length_toList]; rfl
/-- What a byte says; 0: nothing. -/
def num (b : Nat) : Nat := if b = 111 then 1 else if b = 108 then 2 else if b = 102 then 3 else 0
/-- The letter of an answer. -/
def lett (x : Int) : UInt8 := if x = 1 then 111 else if x = 2 then 108 else 102
def Good (bs : List UInt8) : Prop := ∀ b ∈ bs, num b.toNat ≠ 0
def nums (bs : List UInt8) : List Int := bs.map fun b => (num b.toNat : Int)
def Ans (l : List Int) : Prop := ∀ x ∈ l, 1 ≤ x ∧ x ≤ 3
def text (l : List Int) : List UInt8 := l.map lett
instance (bs : List UInt8) : Decidable (Good bs) := by unfold Good; infer_instance
instance (l : List Int) : Decidable (Ans l) := by unfold Ans; infer_instance

theorem num_le (b : Nat) : num b ≤ 3 := by unfold num; split <;> (try split) <;> (try split) <;> omega
theorem num_o : num 111 = 1 := by decide
theorem num_l : num 108 = 2 := by decide
theorem num_f : num 102 = 3 := by decide
theorem num_no {b : Nat} (h1 : b ≠ 111) (h2 : b ≠ 108) (h3 : b ≠ 102) : num b = 0 := by simp [num, h1, h2, h3]
theorem num_lett {x : Int} (h : 1 ≤ x ∧ x ≤ 3) : (num (lett x).toNat : Int) = x := by
  have : x = 1 ∨ x = 2 ∨ x = 3 := by omega
  rcases this with rfl | rfl | rfl <;> decide
theorem lett_num {b : UInt8} (h : num b.toNat ≠ 0) : lett (num b.toNat) = b := by
  by_cases h1 : b.toNat = 111
  · rw [h1]; exact UInt8.toNat_inj.1 (by rw [h1]; decide)
  by_cases h2 : b.toNat = 108
  · rw [h2]; exact UInt8.toNat_inj.1 (by rw [h2]; decide)
  by_cases h3 : b.toNat = 102
  · rw [h3]; exact UInt8.toNat_inj.1 (by rw [h3]; decide)
  · exact absurd (num_no h1 h2 h3) h
theorem lett_good {x : Int} (h : 1 ≤ x ∧ x ≤ 3) : num (lett x).toNat ≠ 0 := by
  have := num_lett h
  omega
theorem lett_1 : lett 1 = 111 := by decide
theorem lett_2 : lett 2 = 108 := by decide
theorem lett_3 : lett 3 = 102 := by decide

theorem nums_length (bs : List UInt8) : (nums bs).length = bs.length := by simp [nums]
theorem text_length (l : List Int) : (text l).length = l.length := by simp [text]
theorem nums_append (a b : List UInt8) : nums (a ++ b) = nums a ++ nums b := by simp [nums]
theorem text_append (a b : List Int) : text (a ++ b) = text a ++ text b := by simp [text]
theorem good_append {a b : List UInt8} : Good (a ++ b) ↔ Good a ∧ Good b := by
  unfold Good
  constructor
  · intro h; exact ⟨fun x hx => h x (by simp [hx]), fun x hx => h x (by simp [hx])⟩
  · rintro ⟨h1, h2⟩ x hx
    rcases List.mem_append.1 hx with h | h
    · exact h1 x h
    · exact h2 x h
theorem ans_append {a b : List Int} : Ans (a ++ b) ↔ Ans a ∧ Ans b := by
  unfold Ans
  constructor
  · intro h; exact ⟨fun x hx => h x (by simp [hx]), fun x hx => h x (by simp [hx])⟩
  · rintro ⟨h1, h2⟩ x hx
    rcases List.mem_append.1 hx with h | h
    · exact h1 x h
    · exact h2 x h
theorem good_nil : Good [] := fun _ h => by cases h
theorem ans_nil : Ans [] := fun _ h => by cases h
theorem ans_nums {bs : List UInt8} (h : Good bs) : Ans (nums bs) := by
  intro x hx
  obtain ⟨b, hb, rfl⟩ := List.mem_map.1 hx
  have := h b hb
  have := num_le b.toNat
  omega
theorem good_text {l : List Int} (h : Ans l) : Good (text l) := by
  intro b hb
  obtain ⟨x, hx, rfl⟩ := List.mem_map.1 hb
  exact lett_good (h x hx)
theorem nums_text : ∀ {l : List Int}, Ans l → nums (text l) = l
  | [], _ => rfl
  | x :: l, h => by
    have h1 := num_lett (h x (by simp))
    have h2 := nums_text (l := l) fun y hy => h y (by simp [hy])
    simp only [text, nums, List.map_cons, List.map_map] at h2 ⊢
    rw [h1, h2]
theorem text_nums : ∀ {bs : List UInt8}, Good bs → text (nums bs) = bs
  | [], _ => rfl
  | b :: l, h => by
    have h1 := lett_num (h b (by simp))
    have h2 := text_nums (bs := l) fun y hy => h y (by simp [hy])
    simp only [text, nums, List.map_cons, List.map_map] at h2 ⊢
    rw [h1, h2]
theorem nums_snoc (bs : List UInt8) (k : Nat) (h : k < bs.length) : nums (bs.take (k + 1)) = nums (bs.take k) ++ [(num bs[k].toNat : Int)] := by
  rw [List.take_succ_eq_append_getElem h, nums_append]; rfl
theorem text_snoc (l : List Int) (k : Nat) (h : k < l.length) : text (l.take (k + 1)) = text (l.take k) ++ [lett l[k]] := by
  rw [List.take_succ_eq_append_getElem h, text_append]; rfl

/-! ### the errors of Parse and Print -/
def pE (bs : List UInt8) : Nat := if 2000 < bs.length then 11 else if Good bs then 0 else 9
def pL (bs : List UInt8) : List Int := if pE bs = 0 then nums bs else []
def wE (l : List Int) : Nat := if 2000 < l.length then 11 else if Ans l then 0 else 2
def wT (l : List Int) : List UInt8 := if wE l = 0 then text l else []
theorem pE_many {bs : List UInt8} (h : 2000 < bs.length) : pE bs = 11 := if_pos h
theorem pE_form {bs : List UInt8} (h : bs.length ≤ 2000) (hb : ¬ Good bs) : pE bs = 9 := by unfold pE; rw [if_neg (by omega), if_neg hb]
theorem pE_ok {bs : List UInt8} (h : bs.length ≤ 2000) (hb : Good bs) : pE bs = 0 := by unfold pE; rw [if_neg (by omega), if_pos hb]
theorem pE_zero {bs : List UInt8} (h : pE bs = 0) : bs.length ≤ 2000 ∧ Good bs := by
  unfold pE at h
  split at h
  · cases h
  · split at h
    · exact ⟨by omega, by assumption⟩
    · cases h
theorem pL_ok {bs : List UInt8} (h : pE bs = 0) : pL bs = nums bs := if_pos h
theorem pL_no {bs : List UInt8} (h : pE bs ≠ 0) : pL bs = [] := if_neg h
theorem pE_le (bs : List UInt8) : pE bs ≤ 11 := by unfold pE; split; omega; split <;> omega
theorem pL_ans (bs : List UInt8) : Ans (pL bs) := by
  by_cases h : pE bs = 0
  · rw [pL_ok h]; exact ans_nums (pE_zero h).2
  · rw [pL_no h]; exact ans_nil
theorem pL_le (bs : List UInt8) : (pL bs).length ≤ 2000 := by
  by_cases h : pE bs = 0
  · rw [pL_ok h, nums_length]; exact (pE_zero h).1
  · rw [pL_no h]; simp
theorem wE_many {l : List Int} (h : 2000 < l.length) : wE l = 11 := if_pos h
theorem wE_arg {l : List Int} (h : l.length ≤ 2000) (hb : ¬ Ans l) : wE l = 2 := by unfold wE; rw [if_neg (by omega), if_neg hb]
theorem wE_ok {l : List Int} (h : l.length ≤ 2000) (hb : Ans l) : wE l = 0 := by unfold wE; rw [if_neg (by omega), if_pos hb]
theorem wT_ok {l : List Int} (h : wE l = 0) : wT l = text l := if_pos h
theorem wT_no {l : List Int} (h : wE l ≠ 0) : wT l = [] := if_neg h

/-! ### a source -/
def aE (L : List Int) (bs : List UInt8) : Nat := if pE bs ≠ 0 then pE bs else if 2000 < L.length + bs.length then 11 else 0
def aL (L : List Int) (bs : List UInt8) : List Int := if aE L bs = 0 then L ++ nums bs else L
theorem aE_parse {L : List Int} {bs : List UInt8} (h : pE bs ≠ 0) : aE L bs = pE bs := if_pos h
theorem aE_many {L : List Int} {bs : List UInt8} (h : pE bs = 0) (h2 : 2000 < L.length + bs.length) : aE L bs = 11 := by unfold aE; rw [if_neg (by simp [h]), if_pos h2]
theorem aE_ok {L : List Int} {bs : List UInt8} (h : pE bs = 0) (h2 : L.length + bs.length ≤ 2000) : aE L bs = 0 := by unfold aE; rw [if_neg (by simp [h]), if_neg (by omega)]
theorem aL_ok {L : List Int} {bs : List UInt8} (h : aE L bs = 0) : aL L bs = L ++ nums bs := if_pos h
theorem aL_no {L : List Int} {bs : List UInt8} (h : aE L bs ≠ 0) : aL L bs = L := if_neg h
theorem aE_le (L : List Int) (bs : List UInt8) : aE L bs ≤ 11 := by unfold aE; have := pE_le bs; split; omega; split <;> omega
theorem aE_zero {L : List Int} {bs : List UInt8} (h : aE L bs = 0) : pE bs = 0 ∧ L.length + bs.length ≤ 2000 := by
  unfold aE at h
  split at h
  · omega
  · split at h
    · omega
    · constructor <;> omega
/-- What a source may have. -/
structure Src (L : List Int) : Prop where
  ans : Ans L
  le : L.length ≤ 2000
theorem src_nil : Src [] := ⟨ans_nil, by simp⟩
theorem src_add {L : List Int} (h : Src L) (bs : List UInt8) : Src (aL L bs) := by
  by_cases e : aE L bs = 0
  · rw [aL_ok e]
    exact ⟨ans_append.2 ⟨h.ans, ans_nums (pE_zero (aE_zero e).1).2⟩, by rw [List.length_append, nums_length]; exact (aE_zero e).2⟩
  · rw [aL_no e]; exact h
theorem src_tail {L : List Int} (h : Src L) : Src L.tail := ⟨fun x hx => h.ans x (List.mem_of_mem_tail hx), by have := h.le; simp; omega⟩
theorem head_ans {L : List Int} (h : Src L) : 1 ≤ L.headD 1 ∧ L.headD 1 ≤ 3 := by
  cases L with
  | nil => simp
  | cons x l => exact h.ans x (by simp)
end Go.Proofs.YtpgokoeedmipeaaDoor
