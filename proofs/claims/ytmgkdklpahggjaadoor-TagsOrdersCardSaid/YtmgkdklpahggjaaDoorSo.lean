/- Orders of texts as numbers, for the statements on tags.Order: what a comparison of strings says of them. -/
import Derived.Test.YtmgkdklpahggjaaDoorWe
namespace Go.Proofs.YtmgkdklpahggjaaDoor
open Go.RowKit Go.Lib

theorem less_cmp : ∀ l m : List UInt8, Op.bytesLess l m = decide (compareBytes l m = -1)
  | [], [] => by simp [Op.bytesLess, compareBytes]
  | _ :: _, [] => by simp [Op.bytesLess, compareBytes]
  | [], _ :: _ => by simp [Op.bytesLess, compareBytes]
  | a :: l, b :: m => by
    rw [Op.bytesLess, less_cmp l m]
    simp only [compareBytes]
    by_cases h : a < b
    · simp [h]
    · by_cases h' : b < a
      · have e : (a == b) = false := by
          rw [beq_eq_false_iff_ne]; intro e; rw [e] at h'; rw [UInt8.lt_iff_toNat_lt] at h'; omega
        simp [h, h', e]
      · have e : (a == b) = true := by
          rw [beq_iff_eq]; exact u8eq (by rw [UInt8.lt_iff_toNat_lt] at h h'; omega)
        simp [h, h', e]
theorem eq_cmp (l m : List UInt8) : (l == m) = decide (compareBytes l m = 0) := by
  rw [Bool.eq_iff_iff, beq_iff_eq, decide_eq_true_iff]
  exact ⟨fun e => e ▸ cmp_refl l, cmp_zero l m⟩

theorem order_val (a b : ByteArray) (v : Int) (w : World) (he : Env w) (ha : a.size ≤ 140737488351232) (hb : b.size ≤ 140737488351232) (hv : ordT a.data.toList b.data.toList = v) :
    Calls Tryd.prog 26 #[.string a, .string b] w fun e w' => e = .returned (.int .i64 v) ∧ Below w.heap.size w w' := by
  rw [← hv]; exact order_any a b w he ha hb
/-- What Check says of a text. -/
def ChkV (l : List UInt8) (v : Int) : Prop := ((∃ rs, Tag l rs) ∧ v = 0) ∨ (NoTag l ∧ v = 16)
theorem check_val (s : ByteArray) (v : Int) (w : World) (he : Env w) (hs : s.size ≤ 140737488351232) (h : ChkV s.data.toList v) :
    Calls Tryd.prog 18 #[.string s] w fun e w' => e = .returned (.int .i64 v) ∧ Below w.heap.size w w' := by
  rcases h with ⟨⟨rs, h⟩, rfl⟩ | ⟨h, rfl⟩
  · exact check_tag s rs w he h
  · exact check_no s w he hs h

/-- The numbers that the orders of three texts can be. -/
def OrdOk (ab bc ac va vb : Int) (lt eq : Bool) : Prop :=
  (ab = 1 ∨ (ab = -1 ∧ bc = 1) ∨ (ab = 0 ∧ bc = 1) ∨ (ab = -1 ∧ bc = -1 ∧ ac = -1) ∨ (ab = -1 ∧ bc = 0 ∧ ac = -1) ∨ (ab = 0 ∧ bc = -1 ∧ ac = -1) ∨ (ab = 0 ∧ bc = 0 ∧ ac = 0)) ∧
  (bc = -1 ∨ bc = 0 ∨ bc = 1) ∧ (ac = -1 ∨ ac = 0 ∨ ac = 1) ∧
  ((va = 0 ∧ vb = 0 ∧ ((ab = -1 ∧ lt = true ∧ eq = false) ∨ (ab = 0 ∧ lt = false ∧ eq = true) ∨ (ab = 1 ∧ lt = false ∧ eq = false))) ∨ (va = 0 ∧ vb = 16 ∧ ab = 1) ∨ (va = 16 ∧ vb = 0 ∧ ab = -1) ∨ (va = 16 ∧ vb = 16 ∧ ab = 0))

theorem chk_of (l : List UInt8) : ∃ v, ChkV l v := by
  rcases tag_dec l with h | h
  · exact ⟨0, .inl ⟨h, rfl⟩⟩
  · exact ⟨16, .inr ⟨h, rfl⟩⟩
theorem ord_num (x y z : Int) (hx : x = -1 ∨ x = 0 ∨ x = 1) (hy : y = -1 ∨ y = 0 ∨ y = 1) (hz : z = -1 ∨ z = 0 ∨ z = 1) (h : x ≤ 0 → y ≤ 0 → z ≤ 0 ∧ (z = 0 → x = 0 ∧ y = 0)) (h2 : -y ≤ 0 → -x ≤ 0 → -z ≤ 0 ∧ (-z = 0 → -y = 0 ∧ -x = 0)) :
    x = 1 ∨ (x = -1 ∧ y = 1) ∨ (x = 0 ∧ y = 1) ∨ (x = -1 ∧ y = -1 ∧ z = -1) ∨ (x = -1 ∧ y = 0 ∧ z = -1) ∨ (x = 0 ∧ y = -1 ∧ z = -1) ∨ (x = 0 ∧ y = 0 ∧ z = 0) := by
  rcases hx with rfl | rfl | rfl <;> rcases hy with rfl | rfl | rfl <;> rcases hz with rfl | rfl | rfl <;>
  first
    | (simp; done)
    | exact absurd (h (by decide) (by decide)).1 (by decide)
    | exact absurd ((h (by decide) (by decide)).2 rfl).1 (by decide)
    | exact absurd ((h (by decide) (by decide)).2 rfl).2 (by decide)
    | exact absurd (h2 (by decide) (by decide)).1 (by decide)
theorem ord_ok (a b c : List UInt8) (va vb : Int) (hva : ChkV a va) (hvb : ChkV b vb) : OrdOk (ordT a b) (ordT b c) (ordT a c) va vb (Op.bytesLess a b) (a == b) := by
  have v1 := ordT_vals a b
  have v2 := ordT_vals b c
  have v3 := ordT_vals a c
  have ht := ordT_trans a b c
  have ht2 := ordT_trans c b a
  rw [ordT_swap b c, ordT_swap a b, ordT_swap a c] at ht2
  refine ⟨?_, v2, v3, ?_⟩
  · exact ord_num _ _ _ v1 v2 v3 ht ht2
  · rcases hva with ⟨⟨rs, ha⟩, rfl⟩ | ⟨ha, rfl⟩ <;> rcases hvb with ⟨⟨ts, hb⟩, rfl⟩ | ⟨hb, rfl⟩
    · rw [ordT_both ha hb, less_cmp, eq_cmp]
      rcases cmp_vals a b with e | e | e <;> rw [e] <;> simp
    · rw [ordT_left ha hb]; simp
    · rw [ordT_right ha hb]; simp
    · rw [ordT_none ha hb]; simp
end Go.Proofs.YtmgkdklpahggjaaDoor
