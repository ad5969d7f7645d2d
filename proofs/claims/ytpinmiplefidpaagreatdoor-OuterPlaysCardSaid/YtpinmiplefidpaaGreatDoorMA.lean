/- The layer A, joined. -/
import Derived.Test.YtpinmiplefidpaaGreatDoorMS
import Derived.Test.YtpinmiplefidpaaGreatDoorRows
import Derived.WalkKit
import Derived.WalkSpells
import Derived.WalkLawsBesides
import Derived.Lib.Hide
import Derived.Lib.SliceRun
import Derived.Laws.Rows
import Derived.Laws.AppendOwn
import Derived.Laws.AppendOwnNone
import Derived.Maps.AppendAt
import Derived.Deep.AppendLies
import Derived.Deep.QuietTactic
import Derived.BigQuiet
import Derived.BigFrame
import Derived.OwnWalk
import Derived.IntWalk
import Derived.Deep.RegionWith
import Derived.Deep.RegionHeld3
import Derived.Lib.AppendZeros
import Derived.RangeFuncNested
import Derived.RangeFuncBound
import Derived.RangeFuncBox
import Derived.RangeFuncCalls
import Derived.RangeFuncLeaves
import Derived.Shelf.Abstract
import Derived.Shelf.RegionOpen
import Derived.BigFrameIn
import Derived.OwnWalkIn
import Derived.TacticsInMore
import Derived.LoopNIn
import Derived.LoopIn
import Derived.Laws.IdiomStrings
namespace Go.Proofs.YtpinmiplefidpaaGreatDoor.AN

theorem size_data (s : ByteArray) : s.size = s.data.toList.length := by rw [Array.length_toList]; rfl
/-- What a byte says; 0: nothing. -/
def num (b : Nat) : Nat := if b = 111 then 1 else if b = 108 then 2 else if b = 102 then 3 else 0
/-- The letter of an answer. -/
def lett (x : Int) : UInt8 := if x = 1 then 111 else if x = 2 then 108 else 102
def Good (bs : List UInt8) : Prop := ∀ b ∈ bs, num b.toNat ≠ 0
def nums (bs : List UInt8) : List Int := bs.map fun b => (num b.toNat : Int)
def Ans (l : List Int) : Prop := ∀ x ∈ l, 1 ≤ x ∧ x ≤ 3
def text (l : List Int) : List UInt8 := l.map lett
instance (bs : List UInt8) : Decidable (Good bs) := by unfold Good; infer_instance
instance (l : List Int) : Decidable (Ans l) := by unfold Ans; infer_instance

theorem num_le (b : Nat) : num b ≤ 3 := by unfold num; split <;> (try split) <;> (try split) <;> omega
theorem num_o : num 111 = 1 := by decide
theorem num_l : num 108 = 2 := by decide
theorem num_f : num 102 = 3 := by decide
theorem num_no {b : Nat} (h1 : b ≠ 111) (h2 : b ≠ 108) (h3 : b ≠ 102) : num b = 0 := by simp [num, h1, h2, h3]
theorem num_lett {x : Int} (h : 1 ≤ x ∧ x ≤ 3) : (num (lett x).toNat : Int) = x := by
  have : x = 1 ∨ x = 2 ∨ x = 3 := by omega
  rcases this with rfl | rfl | rfl <;> decide
theorem lett_num {b : UInt8} (h : num b.toNat ≠ 0) : lett (num b.toNat) = b := by
  by_cases h1 : b.toNat = 111
  · rw [h1]; exact UInt8.toNat_inj.1 (by rw [h1]; decide)
  by_cases h2 : b.toNat = 108
  · rw [h2]; exact UInt8.toNat_inj.1 (by rw [h2]; decide)
  by_cases h3 : b.toNat = 102
  · rw [h3]; exact UInt8.toNat_inj.1 (by rw [h3]; decide)
  · exact absurd (num_no h1 h2 h3) h
theorem lett_good {x : Int} (h : 1 ≤ x ∧ x ≤ 3) : num (lett x).toNat ≠ 0 := by
  have := num_lett h
  omega
theorem lett_1 : lett 1 = 111 := by decide
theorem lett_2 : lett 2 = 108 := by decide
theorem lett_3 : lett 3 = 102 := by decide

theorem nums_length (bs : List UInt8) : (nums bs).length = bs.length := by simp [nums]
theorem text_length (l : List Int) : (text l).length = l.length := by simp [text]
theorem nums_append (a b : List UInt8) : nums (a ++ b) = nums a ++ nums b := by simp [nums]
theorem text_append (a b : List Int) : text (a ++ b) = text a ++ text b := by simp [text]
theorem good_append {a b : List UInt8} : Good (a ++ b) ↔ Good a ∧ Good b := by
  unfold Good
  constructor
  · intro h; exact ⟨fun x hx => h x (by simp [hx]), fun x hx => h x (by simp [hx])⟩
  · rintro ⟨h1, h2⟩ x hx
    rcases List.mem_append.1 hx with h | h
    · exact h1 x h
    · exact h2 x h
theorem ans_append {a b : List Int} : Ans (a ++ b) ↔ Ans a ∧ Ans b := by
  unfold Ans
  constructor
  · intro h; exact ⟨fun x hx => h x (by simp [hx]), fun x hx => h x (by simp [hx])⟩
  · rintro ⟨h1, h2⟩ x hx
    rcases List.mem_append.1 hx with h | h
    · exact h1 x h
    · exact h2 x h
theorem good_nil : Good [] := fun _ h => by cases h
theorem ans_nil : Ans [] := fun _ h => by cases h
theorem ans_nums {bs : List UInt8} (h : Good bs) : Ans (nums bs) := by
  intro x hx
  obtain ⟨b, hb, rfl⟩ := List.mem_map.1 hx
  have := h b hb
  have := num_le b.toNat
  omega
theorem good_text {l : List Int} (h : Ans l) : Good (text l) := by
  intro b hb
  obtain ⟨x, hx, rfl⟩ := List.mem_map.1 hb
  exact lett_good (h x hx)
theorem nums_text : ∀ {l : List Int}, Ans l → nums (text l) = l
  | [], _ => rfl
  | x :: l, h => by
    have h1 := num_lett (h x (by simp))
    have h2 := nums_text (l := l) fun y hy => h y (by simp [hy])
    simp only [text, nums, List.map_cons, List.map_map] at h2 ⊢
    rw [h1, h2]
theorem text_nums : ∀ {bs : List UInt8}, Good bs → text (nums bs) = bs
  | [], _ => rfl
  | b :: l, h => by
    have h1 := lett_num (h b (by simp))
    have h2 := text_nums (bs := l) fun y hy => h y (by simp [hy])
    simp only [text, nums, List.map_cons, List.map_map] at h2 ⊢
    rw [h1, h2]
theorem nums_snoc (bs : List UInt8) (k : Nat) (h : k < bs.length) : nums (bs.take (k + 1)) = nums (bs.take k) ++ [(num bs[k].toNat : Int)] := by
  rw [List.take_succ_eq_append_getElem h, nums_append]; rfl
theorem text_snoc (l : List Int) (k : Nat) (h : k < l.length) : text (l.take (k + 1)) = text (l.take k) ++ [lett l[k]] := by
  rw [List.take_succ_eq_append_getElem h, text_append]; rfl

/-! ### the errors of Parse and Print -/
def pE (bs : List UInt8) : Nat := if 2000 < bs.length then 11 else if Good bs then 0 else 9
def pL (bs : List UInt8) : List Int := if pE bs = 0 then nums bs else []
def wE (l : List Int) : Nat := if 2000 < l.length then 11 else if Ans l then 0 else 2
def wT (l : List Int) : List UInt8 := if wE l = 0 then text l else []
theorem pE_many {bs : List UInt8} (h : 2000 < bs.length) : pE bs = 11 := if_pos h
theorem pE_form {bs : List UInt8} (h : bs.length ≤ 2000) (hb : ¬ Good bs) : pE bs = 9 := by unfold pE; rw [if_neg (by omega), if_neg hb]
theorem pE_ok {bs : List UInt8} (h : bs.length ≤ 2000) (hb : Good bs) : pE bs = 0 := by unfold pE; rw [if_neg (by omega), if_pos hb]
theorem pE_zero {bs : List UInt8} (h : pE bs = 0) : bs.length ≤ 2000 ∧ Good bs := by
  unfold pE at h
  split at h
  · cases h
  · split at h
    · exact ⟨by omega, by assumption⟩
    · cases h
theorem pL_ok {bs : List UInt8} (h : pE bs = 0) : pL bs = nums bs := if_pos h
theorem pL_no {bs : List UInt8} (h : pE bs ≠ 0) : pL bs = [] := if_neg h
theorem pE_le (bs : List UInt8) : pE bs ≤ 11 := by unfold pE; split; omega; split <;> omega
theorem pL_ans (bs : List UInt8) : Ans (pL bs) := by
  by_cases h : pE bs = 0
  · rw [pL_ok h]; exact ans_nums (pE_zero h).2
  · rw [pL_no h]; exact ans_nil
theorem pL_le (bs : List UInt8) : (pL bs).length ≤ 2000 := by
  by_cases h : pE bs = 0
  · rw [pL_ok h, nums_length]; exact (pE_zero h).1
  · rw [pL_no h]; simp
theorem wE_many {l : List Int} (h : 2000 < l.length) : wE l = 11 := if_pos h
theorem wE_arg {l : List Int} (h : l.length ≤ 2000) (hb : ¬ Ans l) : wE l = 2 := by unfold wE; rw [if_neg (by omega), if_neg hb]
theorem wE_ok {l : List Int} (h : l.length ≤ 2000) (hb : Ans l) : wE l = 0 := by unfold wE; rw [if_neg (by omega), if_pos hb]
theorem wT_ok {l : List Int} (h : wE l = 0) : wT l = text l := if_pos h
theorem wT_no {l : List Int} (h : wE l ≠ 0) : wT l = [] := if_neg h

/-! ### a source -/
def aE (L : List Int) (bs : List UInt8) : Nat := if pE bs ≠ 0 then pE bs else if 2000 < L.length + bs.length then 11 else 0
def aL (L : List Int) (bs : List UInt8) : List Int := if aE L bs = 0 then L ++ nums bs else L
theorem aE_parse {L : List Int} {bs : List UInt8} (h : pE bs ≠ 0) : aE L bs = pE bs := if_pos h
theorem aE_many {L : List Int} {bs : List UInt8} (h : pE bs = 0) (h2 : 2000 < L.length + bs.length) : aE L bs = 11 := by unfold aE; rw [if_neg (by simp [h]), if_pos h2]
theorem aE_ok {L : List Int} {bs : List UInt8} (h : pE bs = 0) (h2 : L.length + bs.length ≤ 2000) : aE L bs = 0 := by unfold aE; rw [if_neg (by simp [h]), if_neg (by omega)]
theorem aL_ok {L : List Int} {bs : List UInt8} (h : aE L bs = 0) : aL L bs = L ++ nums bs := if_pos h
theorem aL_no {L : List Int} {bs : List UInt8} (h : aE L bs ≠ 0) : aL L bs = L := if_neg h
theorem aE_le (L : List Int) (bs : List UInt8) : aE L bs ≤ 11 := by unfold aE; have := pE_le bs; split; omega; split <;> omega
theorem aE_zero {L : List Int} {bs : List UInt8} (h : aE L bs = 0) : pE bs = 0 ∧ L.length + bs.length ≤ 2000 := by
  unfold aE at h
  split at h
  · omega
  · split at h
    · omega
    · constructor <;> omega
/-- What a source may have. -/
structure Src (L : List Int) : Prop where
  ans : Ans L
  le : L.length ≤ 2000
theorem src_nil : Src [] := ⟨ans_nil, by simp⟩
theorem src_add {L : List Int} (h : Src L) (bs : List UInt8) : Src (aL L bs) := by
  by_cases e : aE L bs = 0
  · rw [aL_ok e]
    exact ⟨ans_append.2 ⟨h.ans, ans_nums (pE_zero (aE_zero e).1).2⟩, by rw [List.length_append, nums_length]; exact (aE_zero e).2⟩
  · rw [aL_no e]; exact h
theorem src_tail {L : List Int} (h : Src L) : Src L.tail := ⟨fun x hx => h.ans x (List.mem_of_mem_tail hx), by have := h.le; simp; omega⟩
theorem head_ans {L : List Int} (h : Src L) : 1 ≤ L.headD 1 ∧ L.headD 1 ≤ 3 := by
  cases L with
  | nil => simp
  | cons x l => exact h.ans x (by simp)
end Go.Proofs.YtpinmiplefidpaaGreatDoor.AN

namespace Go.Proofs.YtpinmiplefidpaaGreatDoor.AN
open Go.RowKit

section
variable {w w' : World} {g : Nat} {t : TypeId} {cs : Array Value}
end

section
variable {S T : Nat → Prop} {a b c w : World}
end



/-! ### slices of ints -/
def ints (l : List Int) : List Value := l.map (.int .i64 ·)
theorem ints_length (l : List Int) : (ints l).length = l.length := by simp [ints]
theorem ints_append (l m : List Int) : ints (l ++ m) = ints l ++ ints m := by simp [ints]
theorem ints_at {l : List Int} {j : Nat} {x : Int} (h : l[j]? = some x) : (ints l)[j]? = some (.int .i64 x) := by simp [ints, h]
theorem ints_one (l : List Int) : ∀ u ∈ ints l, u.oneCell' = true := by
  intro u hu
  obtain ⟨x, _, rfl⟩ := List.mem_map.1 hu
  rfl

/-- The slice value v reads as the ints l. -/
def Sl (w : World) (v : Value) (l : List Int) : Prop :=
  ∃ a c, v = .slice a l.length c ∧ l.length ≤ c ∧ c ≤ maxLen ∧ (a = none → c = 0) ∧ ∀ b, a = some b → ∃ g off cur, b = ⟨g, off, none⟩ ∧ Bk w g 3 cur ∧ ∀ j x, l[j]? = some x → cur[off + j]? = some (.int .i64 x)
theorem Sl.same {w w' : World} {v : Value} {l : List Int} (h : Sl w v l) (e : ∀ g cur, Bk w g 3 cur → w'.heap[g]? = w.heap[g]?) : Sl w' v l := by
  obtain ⟨a, c, e1, h1, h2, h3, h4⟩ := h
  refine ⟨a, c, e1, h1, h2, h3, fun b hb => ?_⟩
  obtain ⟨g, off, cur, e2, hg, hc⟩ := h4 b hb
  exact ⟨g, off, cur, e2, hg.same (e g cur hg), hc⟩
theorem Sl.below {w w' : World} {v : Value} {l : List Int} (h : Sl w v l) (hb : Below w.heap.size w w') : Sl w' v l := h.same fun g _ hg => hb.block g hg.lt
theorem Sl.drewN {w : World} {v : Value} {l : List Int} (h : Sl w v l) (q : Nat) : Sl (w.drewN q) v l := h.same fun _ _ _ => rfl
theorem Sl.drew {w : World} {v : Value} {l : List Int} (h : Sl w v l) : Sl w.drew v l := h.same fun _ _ _ => rfl
theorem Sl.kept {S : Nat → Prop} {w w' : World} {v : Value} {l : List Int} (h : Sl w v l) (k : Kept S w w') (hs : ∀ g cur, Bk w g 3 cur → ¬ S g) : Sl w' v l := h.same fun g cur hg => k.block g hg.lt (hs g cur hg)
theorem Sl.nil (w : World) : Sl w (.slice none 0 0) [] := ⟨none, 0, rfl, Nat.le_refl _, Nat.zero_le _, fun _ => rfl, fun _ h => by cases h⟩
theorem Sl.of_own {w : World} {b : Nat} {v : Value} {l : List Int} (h : w.ownsRow b 3 1 v l.length (ints l)) : Sl w v l := by
  rcases h.2 with ⟨rfl, h0⟩ | ⟨g, cap, cur, rfl, h1, h2, h3, h4, h5, h6⟩
  · have : l = [] := List.eq_nil_of_length_eq_zero h0
    subst this
    exact Sl.nil w
  · refine ⟨_, cap, rfl, h3, h4, fun e => (by cases e), fun b' e => ⟨g, 0, cur, (Option.some.inj e).symm, h2, fun j x hj => ?_⟩⟩
    have hjl : j < l.length := (List.getElem?_eq_some_iff.1 hj).1
    have := ints_at hj
    rw [← h6, List.getElem?_take_of_lt (by omega), Array.getElem?_toList] at this
    rw [Nat.zero_add]; exact this
theorem Sl.len {w : World} {v : Value} {l : List Int} (h : Sl w v l) : ∃ a c, v = .slice a l.length c ∧ Sl w (.slice a l.length c) l := by
  obtain ⟨a, c, e, h'⟩ := id h
  subst e
  exact ⟨a, c, rfl, h⟩
theorem Sl.cell {w : World} {a : Option Addr} {n c : Nat} {l : List Int} (h : Sl w (.slice a n c) l) {j : Nat} (hj : j < l.length) : ∃ g off, a = some ⟨g, off, none⟩ ∧ g < w.heap.size ∧ w.cell? ⟨g, off + j, none⟩ = some (.int .i64 l[j]) ∧ w.frozen? ⟨g, off + j, none⟩ = false := by
  obtain ⟨a', c', e, h1, h2, h3, h4⟩ := h
  injection e with e1 e2 e3
  subst e1 e2 e3
  cases a with
  | none => have := h3 rfl; omega
  | some b =>
    obtain ⟨g, off, cur, rfl, hg, hc⟩ := h4 b rfl
    exact ⟨g, off, rfl, hg.lt, by rw [hg.cell]; exact hc j _ (List.getElem?_eq_getElem hj), hg.frozen _⟩
theorem Sl.cap {w : World} {a : Option Addr} {n c : Nat} {l : List Int} (h : Sl w (.slice a n c) l) : n = l.length ∧ l.length ≤ c ∧ c ≤ maxLen ∧ (a = none → c = 0) := by
  obtain ⟨a', c', e, h1, h2, h3, h4⟩ := h
  injection e with e1 e2 e3
  subst e1 e2 e3
  exact ⟨rfl, h1, h2, h3⟩
theorem own_below {w w' : World} {base n s : Nat} {e : TypeId} {v : Value} {xs : List Value} (h : w.ownsRow base e s v n xs) (k : Below w.heap.size w w') : w'.ownsRow base e s v n xs := by
  refine ⟨h.1, ?_⟩
  rcases h.2 with h | ⟨g, cap, cur, h1, h2, h3, h4⟩
  · exact .inl h
  · exact .inr ⟨g, cap, cur, h1, h2, (Bk.below (show Bk w g e cur from h3) k), h4⟩
/-- The tail of a slice that is not empty. -/
theorem Sl.tail {w : World} {g off c : Nat} {n : Nat} {l : List Int} (h : Sl w (.slice (some ⟨g, off, none⟩) (n + 1) c) l) : Sl w (.slice (some ⟨g, off + 1, none⟩) n (c - 1)) l.tail := by
  obtain ⟨a', c', e, h1, h2, h3, h4⟩ := h
  injection e with e1 e2 e3
  subst e1 e3
  obtain ⟨g', off', cur, e4, hg, hc⟩ := h4 _ rfl
  injection e4 with e5 e6
  subst e5 e6
  refine ⟨_, _, by rw [List.length_tail, ← e2]; rfl, by rw [List.length_tail]; omega, by omega, fun e => (by cases e), fun b' e => ⟨g, off + 1, cur, (Option.some.inj e).symm, hg, fun j x hj => ?_⟩⟩
  have : l[j + 1]? = some x := by rw [← hj]; simp [← List.drop_one, List.getElem?_drop, Nat.add_comm]
  have := hc (j + 1) x this
  rw [← this]; congr 1; omega
/-- The tail of a slice of one element that has no room behind it. -/
theorem Sl.tail0 {w : World} {g off n c : Nat} {l : List Int} (h : Sl w (.slice (some ⟨g, off, none⟩) n c) l) : Sl w (.slice (some ⟨g, off, none⟩) 0 0) [] := by
  obtain ⟨a', c', e, h1, h2, h3, h4⟩ := h
  injection e with e1 e2 e3
  subst e1
  obtain ⟨g', off', cur, e4, hg, hc⟩ := h4 _ rfl
  exact ⟨_, 0, rfl, Nat.le_refl _, Nat.zero_le _, fun _ => rfl, fun b' e => ⟨g', off', cur, by rw [← Option.some.inj e, e4], hg, fun j x hj => by simp at hj⟩⟩
/-- The first k elements of a slice. -/
theorem Sl.take {w : World} {a : Option Addr} {n c k : Nat} {l : List Int} (h : Sl w (.slice a n c) l) (hk : k ≤ n) : Sl w (.slice a k c) (l.take k) := by
  obtain ⟨hn, h1, h2, h3⟩ := h.cap
  obtain ⟨a', c', e, _, _, _, h4⟩ := h
  injection e with e1 e2 e3
  subst e1 e3
  refine ⟨_, _, by rw [List.length_take, Nat.min_eq_left (by omega)], by rw [List.length_take]; omega, h2, h3, fun b hb => ?_⟩
  obtain ⟨g, off, cur, e4, hg, hc⟩ := h4 b hb
  refine ⟨g, off, cur, e4, hg, fun j x hj => hc j x ?_⟩
  rw [List.getElem?_take] at hj
  split at hj
  · exact hj
  · cases hj

theorem info_int : (Tryz.prog.info? 3).map (fun i => (i.zero, i.size, i.bytes)) = some (some (.int .i64 0), 1, 8) := by kernel_rfl
/-- append(s, x...): s a slice of one's own, x any slice that reads as m. -/
theorem wpList_append_sl {w : World} {ops : Array Oper} {rest : List Oper} {o : Oper} {a : Act} {Q : Exit → Act → World → Prop} (hgd : o.guard = none) (s x : Operand)
    (ho : o.op = .call { callee := .builtin .append, args := #[s, x], argTypes := #[164, 164] })
    (base : Nat) (v : Value) (n : Nat) (xs : List Value) (hs : a.eval s = v) (hown : w.ownsRow base 3 1 v n xs)
    (vx : Value) (m : List Int) (hx : a.eval x = vx) (hm : Sl w vx m) (h63 : n + m.length ≤ 1000000) (hbase : base ≤ w.heap.size)
    (h : ∀ v' w', w'.ownsRow base 3 1 v' (n + m.length) (xs ++ ints m) → w.grownBy w' v.ownBlock → wpList Tryz.prog ops Q rest (a.put o.dst v') w') : wpList Tryz.prog ops Q (o :: rest) a w := by
  obtain ⟨i0, hi, hz0, hz1, hz2⟩ := info_parts info_int
  obtain ⟨a0, c, rfl, h1, h2, h3, h4⟩ := hm
  cases a0 with
  | none =>
    have hc0 := h3 rfl
    subst hc0
    have : m = [] := List.eq_nil_of_length_eq_zero (by omega)
    subst this
    exact wpList_append_own_none hgd s x 164 ho base 3 i0 1 Tryz.underlying164 hi v n xs hs hown hx (h v w (by simpa [ints] using hown) (World.grownBy.refl w _))
  | some b =>
    obtain ⟨g, off, cur, rfl, hg, hc⟩ := h4 b rfl
    refine wpList_append_own _ hgd s x 164 ho base 3 i0 (.int .i64 0) 1 8 Tryz.underlying164 hi hz0 hz1 hz2 rfl (by decide) v n xs hs hown ⟨g, off, none⟩ m.length c (ints m) hx (by simp [ints]) (fun j u hj => ?_) (ints_one m) (by unfold maxLen; omega) (by omega) hbase (fun v' w' h5 h6 _ => h v' w' h5 h6)
    have hjl : j < m.length := by have := (List.getElem?_eq_some_iff.1 hj).1; simpa [ints] using this
    have e : (⟨g, off, none⟩ : Addr).add j = ⟨g, off + j, none⟩ := by unfold Addr.add; split <;> simp_all
    rw [e, hg.cell, hc j m[j] (List.getElem?_eq_getElem hjl)]
    rw [← hj, ints_at (List.getElem?_eq_getElem hjl)]

/-! ### sources -/
/-- A source of type t: its struct lies in block b, its answers are L. -/
structure SrcW (t : TypeId) (w : World) (b : Nat) (L : List Int) : Prop where
  ok : Src L
  at_ : ∃ a c, Bk w b t #[.bool true, .slice a L.length c] ∧ Sl w (.slice a L.length c) L
section
variable {t t' : TypeId} {w w' : World} {b b' : Nat} {L L' : List Int}
theorem SrcW.lt (h : SrcW t w b L) : b < w.heap.size := by obtain ⟨_, _, h1, _⟩ := h.at_; exact h1.lt
theorem SrcW.below (h : SrcW t w b L) (k : Below w.heap.size w w') : SrcW t w' b L := ⟨h.ok, by obtain ⟨a, c, h1, h2⟩ := h.at_; exact ⟨a, c, h1.below k, h2.below k⟩⟩
theorem SrcW.drewN (h : SrcW t w b L) (q : Nat) : SrcW t (w.drewN q) b L := ⟨h.ok, by obtain ⟨a, c, h1, h2⟩ := h.at_; exact ⟨a, c, h1.same rfl, h2.drewN q⟩⟩
theorem SrcW.drew (h : SrcW t w b L) : SrcW t w.drew b L := ⟨h.ok, by obtain ⟨a, c, h1, h2⟩ := h.at_; exact ⟨a, c, h1.same rfl, h2.drew⟩⟩
theorem SrcW.kept {S : Nat → Prop} (h : SrcW t w b L) (k : Kept S w w') (hb : ¬ S b) (hs : ∀ g cur, Bk w g 3 cur → ¬ S g) : SrcW t w' b L := ⟨h.ok, by obtain ⟨a, c, h1, h2⟩ := h.at_; exact ⟨a, c, h1.kept k hb, h2.kept k hs⟩⟩
/-- Another source is turned. -/
theorem SrcW.other (h : SrcW t w b L) (h2 : SrcW t' w b' L') (k : Kept (· = b') w w') (hn : b ≠ b') (ht : 3 ≠ t') : SrcW t w' b L :=
  h.kept k hn fun g cur hg e => by
    subst e
    obtain ⟨_, _, h1, _⟩ := h2.at_
    exact ht (hg.uniq h1).1
theorem Sl.other {v : Value} {l : List Int} (h : Sl w v l) (h2 : SrcW t' w b' L') (k : Kept (· = b') w w') (ht : 3 ≠ t') : Sl w' v l :=
  h.kept k fun g cur hg e => by
    subst e
    obtain ⟨_, _, h1, _⟩ := h2.at_
    exact ht (hg.uniq h1).1
theorem SrcW.ne (h : SrcW t w b L) (h2 : SrcW t' w b' L') (ht : t ≠ t') : b ≠ b' := by
  rintro rfl
  obtain ⟨_, _, h1, _⟩ := h.at_
  obtain ⟨_, _, h3, _⟩ := h2.at_
  exact ht (h1.uniq h3).1
/-- Its cells. -/
theorem SrcW.cells (h : SrcW t w b L) : ∃ a c, w.cell? ⟨b, 0, none⟩ = some (.bool true) ∧ w.cell? ⟨b, 1, none⟩ = some (.slice a L.length c) ∧ w.frozen? ⟨b, 1, none⟩ = false ∧ Sl w (.slice a L.length c) L ∧ Bk w b t #[.bool true, .slice a L.length c] := by
  obtain ⟨a, c, h1, h2⟩ := h.at_
  exact ⟨a, c, h1.cell 0, h1.cell 1, h1.frozen 1, h2, h1⟩
/-- Its answers are stored anew. -/
theorem SrcW.put {a : Option Addr} {n c : Nat} {u : Value} (h : Bk w b t #[.bool true, u]) (hL : Src L') (hs : Sl w (.slice a n c) L') (ht : 3 ≠ t) : SrcW t (w.setCell ⟨b, 1, none⟩ (.slice a n c)) b L' := by
  refine ⟨hL, a, c, ?_, ?_⟩
  · have := h.put 1 (.slice a n c)
    rw [← hs.cap.1]
    simpa using this
  · have e := hs.cap.1
    subst e
    exact hs.same fun g cur hg => Below.heap_setCell _ _ _ _ fun e => ht (by have e' : g = b := e; subst e'; exact (hg.uniq h).1)
end
/-- A source that New or Copy did not make: nil, or the zero one. -/
def Inv (w : World) (v : Option Addr) : Prop := v = none ∨ ∃ b, v = some ⟨b, 0, none⟩ ∧ Bk w b 166 #[.bool false, .slice none 0 0]
theorem Inv.below {w w' : World} {v : Option Addr} (h : Inv w v) (hb : Below w.heap.size w w') : Inv w' v := by
  rcases h with rfl | ⟨b, rfl, h⟩
  · exact .inl rfl
  · exact .inr ⟨b, rfl, h.below hb⟩
end Go.Proofs.YtpinmiplefidpaaGreatDoor.AN

namespace Go.Proofs.YtpinmiplefidpaaGreatDoor.AN
open Go.RowKit

/-! ### valid -/
set_option maxRecDepth 100000 in
theorem valid_nil (w : World) : Calls Tryz.prog 106 #[.pointer none] w fun e w' => e = .returned (.bool false) ∧ w = w' := by
  go_enter Tryz.func106, Tryz.ntmps106
  go_wp2
  go_ret
  exact ⟨rfl, rfl⟩
set_option maxRecDepth 100000 in
theorem valid_zero (b : Nat) (w : World) (h : Bk w b 166 #[.bool false, .slice none 0 0]) : Calls Tryz.prog 106 #[.pointer (some ⟨b, 0, none⟩)] w fun e w' => e = .returned (.bool false) ∧ w = w' := by
  have hc : w.cell? ⟨b, 0, none⟩ = some (.bool false) := h.cell 0
  clear h
  go_enter Tryz.func106, Tryz.ntmps106
  go_wp2
  go_ret
  exact ⟨rfl, rfl⟩
theorem valid_no (v : Option Addr) (w : World) (h : Inv w v) : Calls Tryz.prog 106 #[.pointer v] w fun e w' => e = .returned (.bool false) ∧ w = w' := by
  rcases h with rfl | ⟨b, rfl, h⟩
  · exact valid_nil w
  · exact valid_zero b w h
set_option maxRecDepth 100000 in
theorem valid_yes (b : Nat) (w : World) (h : w.cell? ⟨b, 0, none⟩ = some (.bool true)) : Calls Tryz.prog 106 #[.pointer (some ⟨b, 0, none⟩)] w fun e w' => e = .returned (.bool true) ∧ w = w' := by
  go_enter Tryz.func106, Tryz.ntmps106
  go_wp2
  go_ret
  exact ⟨rfl, rfl⟩
set_option maxRecDepth 100000 in
theorem rvalid_yes (b : Nat) (w : World) (h : w.cell? ⟨b, 0, none⟩ = some (.bool true)) : Calls Tryz.prog 110 #[.pointer (some ⟨b, 0, none⟩)] w fun e w' => e = .returned (.bool true) ∧ w = w' := by
  go_enter Tryz.func110, Tryz.ntmps110
  go_wp2
  go_ret
  exact ⟨rfl, rfl⟩

/-! ### is -/
set_option maxRecDepth 100000 in
theorem is_yes (x : Int) (w : World) (h : 1 ≤ x ∧ x ≤ 3) : Calls Tryz.prog 148 #[.int .i64 x] w fun e w' => e = .returned (.bool true) ∧ w = w' := by
  obtain ⟨h1, h2⟩ := h
  go_enter Tryz.func148, Tryz.ntmps148
  go_wp2
  go_ret
  exact ⟨rfl, rfl⟩
set_option maxRecDepth 100000 in
theorem is_no (x : Int) (w : World) (h : ¬ (1 ≤ x ∧ x ≤ 3)) : Calls Tryz.prog 148 #[.int .i64 x] w fun e w' => e = .returned (.bool false) ∧ w = w' := by
  by_cases h1 : 1 ≤ x
  · have h2 : ¬ x ≤ 3 := by omega
    clear h
    go_enter Tryz.func148, Tryz.ntmps148
    go_wp2
    go_ret
    exact ⟨rfl, rfl⟩
  · clear h
    go_enter Tryz.func148, Tryz.ntmps148
    go_wp2
    go_ret
    exact ⟨rfl, rfl⟩

/-! ### the letters -/
/-- What the variable letters holds. -/
structure Env (w : World) : Prop where
  l0 : w.cell? ⟨2, 0, none⟩ = some (.int .u8 0)
  l1 : w.cell? ⟨2, 1, none⟩ = some (.int .u8 111)
  l2 : w.cell? ⟨2, 2, none⟩ = some (.int .u8 108)
  l3 : w.cell? ⟨2, 3, none⟩ = some (.int .u8 102)
theorem Env.below {w w' : World} (h : Env w) (hb : Below w.heap.size w w') : Env w' :=
  ⟨cell_stays hb h.l0, cell_stays hb h.l1, cell_stays hb h.l2, cell_stays hb h.l3⟩
theorem Env.same {w w' : World} (h : Env w) (e : w'.heap[(2 : Nat)]? = w.heap[(2 : Nat)]?) : Env w' :=
  ⟨(World.cell?_of_block (a := ⟨2, 0, none⟩) e).trans h.l0, (World.cell?_of_block (a := ⟨2, 1, none⟩) e).trans h.l1, (World.cell?_of_block (a := ⟨2, 2, none⟩) e).trans h.l2, (World.cell?_of_block (a := ⟨2, 3, none⟩) e).trans h.l3⟩
theorem Env.drewN {w : World} (h : Env w) (n : Nat) : Env (w.drewN n) := h.same rfl
theorem Env.lt {w : World} (h : Env w) : (2 : Nat) < w.heap.size := World.block_lt_of_cell? _ _ h.l0
/-- The place of a byte among the letters. -/
def place (b : Nat) : Int := if b = 0 then 0 else if b = 111 then 1 else if b = 108 then 2 else if b = 102 then 3 else -1
theorem place_good {b : Nat} (h : num b ≠ 0) : place b = (num b : Int) ∧ (1 ≤ place b ∧ place b ≤ 3) := by
  unfold num at h
  unfold place num
  split at h
  · subst b; decide
  · split at h
    · subst b; decide
    · split at h
      · subst b; decide
      · exact absurd rfl h
theorem place_bad {b : Nat} (h : num b = 0) : ¬ (1 ≤ place b ∧ place b ≤ 3) := by
  unfold num at h
  unfold place
  split at h
  · cases h
  · rename_i h1
    split at h
    · cases h
    · rename_i h2
      split at h
      · cases h
      · rename_i h3
        rw [if_neg h1, if_neg h2, if_neg h3]
        split <;> omega

set_option maxRecDepth 100000 in
set_option maxHeartbeats 2000000 in
theorem index_ok (b : Nat) (w : World) (he : Env w) : Calls Tryz.prog 147 #[.slice (some ⟨2, 0, none⟩) 4 4, .int .u8 (b : Int)] w fun e w' => e = .returned (.int .i64 (place b)) ∧ w = w' := by
  obtain ⟨h0, h1, h2, h3⟩ := he
  by_cases b0 : b = 0
  · subst b0
    go_enter Tryz.func147, Tryz.ntmps147
    go_wp2
    refine wp_loop_rounds 5 ?_
    rw [rounds_succ]; go_wp2
    go_ret
    exact ⟨rfl, rfl⟩
  have n0 : ((b : Int) == 0) = false := by simpa using b0
  by_cases b1 : b = 111
  · subst b1
    go_enter Tryz.func147, Tryz.ntmps147
    go_wp2
    refine wp_loop_rounds 5 ?_
    rw [rounds_succ]; go_wp2
    rw [rounds_succ]; go_wp2
    go_ret
    exact ⟨rfl, rfl⟩
  have n1 : ((b : Int) == 111) = false := by simp; omega
  by_cases b2 : b = 108
  · subst b2
    go_enter Tryz.func147, Tryz.ntmps147
    go_wp2
    refine wp_loop_rounds 5 ?_
    rw [rounds_succ]; go_wp2
    rw [rounds_succ]; go_wp2
    rw [rounds_succ]; go_wp2
    go_ret
    exact ⟨rfl, rfl⟩
  have n2 : ((b : Int) == 108) = false := by simp; omega
  by_cases b3 : b = 102
  · subst b3
    go_enter Tryz.func147, Tryz.ntmps147
    go_wp2
    refine wp_loop_rounds 5 ?_
    rw [rounds_succ]; go_wp2
    rw [rounds_succ]; go_wp2
    rw [rounds_succ]; go_wp2
    rw [rounds_succ]; go_wp2
    go_ret
    exact ⟨rfl, rfl⟩
  have n3 : ((b : Int) == 102) = false := by simp; omega
  have hp : place b = -1 := by unfold place; rw [if_neg b0, if_neg b1, if_neg b2, if_neg b3]
  rw [hp]
  clear hp b0 b1 b2 b3
  go_enter Tryz.func147, Tryz.ntmps147
  go_wp2
  refine wp_loop_rounds 5 ?_
  rw [rounds_succ]; go_wp2
  rw [rounds_succ]; go_wp2
  rw [rounds_succ]; go_wp2
  rw [rounds_succ]; go_wp2
  rw [rounds_succ]; go_wp2
  go_ret
  exact ⟨rfl, rfl⟩

/-! ### Clone, Grow, Concat -/
/-- A new slice that holds l. -/
def NewV (l : List Int) (w : World) (e : Ending) (w' : World) : Prop :=
  ∃ v, e = .returned v ∧ w'.ownsRow w.heap.size 3 1 v l.length (ints l) ∧ Below w.heap.size w w'
/-- A list and an error, as Parse gives them. -/
def ParseV (bs : List UInt8) (w : World) (e : Ending) (w' : World) : Prop :=
  ∃ v, e = .returned (.tuple #[v, .int .i64 (pE bs)]) ∧ Sl w' v (pL bs) ∧ Below w.heap.size w w'
theorem own_empty (w : World) : (w.alloc (.cells #[] 3)).ownsRow w.heap.size 3 1 (.slice (some ⟨w.heap.size, 0, none⟩) 0 0) 0 [] := World.ownsRow_lit w #[] 0 (Nat.le_refl _) (by decide) rfl
theorem own_lt {w : World} {base n : Nat} {v : Value} {e : TypeId} {xs : List Value} (h : w.ownsRow base e 1 v n xs) : ∀ k, v.ownBlock = some k → base ≤ k := fun k hk => (h.lt k hk).1

set_option maxHeartbeats 1000000 in
set_option maxRecDepth 100000 in
theorem clone_ok (a : Option Addr) (n c : Nat) (l : List Int) (w : World) (h : Sl w (.slice a n c) l) (hl : l.length ≤ 100000) :
    Calls Tryz.prog 129 #[.slice a n c] w (NewV l w) := by
  obtain ⟨hn, h1, h2, h3⟩ := h.cap
  subst hn
  cases a with
  | none =>
    have hc := h3 rfl
    subst hc
    have : l = [] := List.eq_nil_of_length_eq_zero (by omega)
    subst this
    have heq := Lib.run_eql_slice_nil (P := Tryz.prog) w 164 3 none 0 0 0 0 Tryz.underlying164
    go_enter Tryz.func129, Tryz.ntmps129
    go_wp2
    go_ret
    exact ⟨_, rfl, World.ownsRow_nil _ _ _ _, Below.refl _ _⟩
  | some b =>
    have heq := Lib.run_eql_slice_nil (P := Tryz.prog) w 164 3 (some b) l.length c 0 0 Tryz.underlying164
    have H := Lib.hid (h.below ((Below.refl _ w).alloc (Nat.le_refl _) (.cells #[] 3)))
    have HO := Lib.hid (own_empty w)
    clear h h3
    go_enter Tryz.func129, Tryz.ntmps129
    go_wp2_with (at_builtin; refine wpList_append_sl rfl _ _ rfl w.heap.size _ 0 [] rfl HO.out _ l rfl H.out (by omega) (by simp) ?_)
    intro v' w1 hown hgrow
    have HV : Hid (NewV l w (.returned v') w1) := ⟨v', rfl, by simpa using hown, ((Below.refl _ w).alloc (Nat.le_refl _) _).grown hgrow (by simp) (fun k hk => own_lt HO.out k hk)⟩
    clear hown hgrow
    go_wp2
    go_ret
    exact HV.out

set_option maxRecDepth 100000 in
theorem grow_zero (w : World) : Calls Tryz.prog 143 #[.slice none 0 0, .int .i64 0] w fun e w' => e = .returned (.slice none 0 0) ∧ w = w' := by
  go_enter Tryz.func143, Tryz.ntmps143
  go_wp2
  go_ret
  exact ⟨rfl, rfl⟩
set_option maxHeartbeats 1000000 in
set_option maxRecDepth 100000 in
theorem grow_pos (n : Nat) (w : World) (h0 : 0 < n) (h1 : n ≤ 100000) : Calls Tryz.prog 143 #[.slice none 0 0, .int .i64 n] w (NewV [] w) := by
  obtain ⟨i0, hi, hz0, hz1, hz2⟩ := info_parts info_int
  have hrz := fun ty => Lib.run_append_nil_zeros (P := Tryz.prog) w 164 3 ty 3 i0 (.int .i64 0) .i64 .i64 Tryz.underlying164 Tryz.underlying3 hi hz0 n h0 (by rw [hz1]; decide) (by omega) (by rw [hz2]; omega)
  have hge : n ≤ grownCap w n 0 3 := grownCap_ge w _ _ _
  have hle : grownCap w n 0 3 ≤ maxLen := grownCap_le_maxLen w n 0 3 (by unfold maxLen; omega)
  generalize grownCap w n 0 3 = G at *
  have HG := Lib.hid (And.intro hge hle)
  have hG63 : G ≤ 9223372036854775807 := by unfold maxLen at hle; omega
  obtain ⟨W, hW⟩ : ∃ W, w.drew.alloc (.cells (Builtin.zeroCells (Value.int .i64 0).cells n ++ Builtin.zeroCells (Value.int .i64 0).cells (G - n)) 3) = W := ⟨_, rfl⟩
  rw [hW] at hrz
  have HW := Lib.hid hW
  clear hW hge hle
  go_enter Tryz.func143, Tryz.ntmps143
  go_wp2_with (at_builtin; refine Lib.wpList_append_run _ rfl _ _ _ _ rfl _ _ rfl rfl _ _ (hrz _) ?_)
  go_ret
  obtain rfl := HW.out
  have hb := Bk.new w.drew 3 (Builtin.zeroCells (Value.int .i64 0).cells n ++ Builtin.zeroCells (Value.int .i64 0).cells (G - n))
  have hsz : (Builtin.zeroCells (Value.int .i64 0).cells n ++ Builtin.zeroCells (Value.int .i64 0).cells (G - n)).size = G := by
    have := HG.out.1
    simp [Builtin.zeroCells, Value.cells]
    omega
  exact ⟨_, rfl, ⟨rfl, .inr ⟨w.heap.size, G, _, rfl, Nat.le_refl _, hb, Nat.zero_le _, HG.out.2, by rw [hsz]; omega, rfl⟩⟩, (bel_drew (Below.refl _ w)).alloc (Nat.le_refl _) _⟩
theorem grow_ok (n : Nat) (w : World) (h1 : n ≤ 100000) : Calls Tryz.prog 143 #[.slice none 0 0, .int .i64 n] w (NewV [] w) := by
  by_cases h0 : n = 0
  · subst h0
    refine (grow_zero w).mono ?_
    rintro e w' ⟨rfl, rfl⟩
    exact ⟨_, rfl, World.ownsRow_nil _ _ _ _, Below.refl _ _⟩
  · exact grow_pos n w (by omega) h1

set_option maxRecDepth 100000 in
set_option maxHeartbeats 4000000 in
theorem concat_ok (g : Nat) (a a' : Option Addr) (n n' c c' : Nat) (l m : List Int) (w : World) (hc0 : w.cell? ⟨g, 0, none⟩ = some (.slice a n c)) (hc1 : w.cell? ⟨g, 1, none⟩ = some (.slice a' n' c')) (h : Sl w (.slice a n c) l) (h' : Sl w (.slice a' n' c') m) (hl : l.length ≤ 10000) (hm : m.length ≤ 10000) :
    Calls Tryz.prog 127 #[.slice (some ⟨g, 0, none⟩) 2 2] w (NewV (l ++ m) w) := by
  obtain ⟨rfl, _⟩ := h.cap
  obtain ⟨rfl, _⟩ := h'.cap
  have H := Lib.hid h
  have H' := Lib.hid h'
  clear h h'
  go_enter Tryz.func127, Tryz.ntmps127
  go_wp2
  refine wp_loop_rounds 3 ?_
  rw [rounds_succ]; go_wp2
  rw [rounds_succ]; go_wp2
  rw [rounds_succ]
  go_wp2_with fail
  have hsum : ((l.length : Int) + (m.length : Int)) = ((l.length + m.length : Nat) : Int) := by omega
  rw [hsum]
  refine (grow_ok (l.length + m.length) _ (by omega)).mono ?_
  rintro e w1 ⟨v, rfl, hown, hb⟩
  have hc0' := cell_stays hb hc0
  have hc1' := cell_stays hb hc1
  have HC := Lib.hid hc1
  have H1 := Lib.hid (H.out.below hb)
  have H1' := Lib.hid (H'.out.below hb)
  have HO := Lib.hid hown
  have HB := Lib.hid hb
  clear hown hb hc0 hc1 hsum
  go_wp2
  refine wp_loop_rounds 3 ?_
  rw [rounds_succ]
  go_wp2_with (at_builtin; refine wpList_append_sl rfl _ _ rfl w.heap.size _ 0 [] rfl HO.out _ l rfl H1.out (by omega) HB.out.size ?_)
  intro v2 w2 hown2 hgrow2
  have hb2 := HB.out.grown hgrow2 HB.out.size (fun k hk => own_lt HO.out k hk)
  have hc2 := cell_stays hb2 HC.out
  have H2' := Lib.hid (H'.out.below hb2)
  have HO2 := Lib.hid hown2
  have HB2 := Lib.hid hb2
  clear hown2 hgrow2 hb2 hc0' hc1'
  go_wp2
  rw [rounds_succ]
  go_wp2_with (at_builtin; refine wpList_append_sl rfl _ _ rfl w.heap.size _ _ _ rfl HO2.out _ m rfl H2'.out (by omega) HB2.out.size ?_)
  intro v3 w3 hown3 hgrow3
  have HV : Hid (NewV (l ++ m) w (.returned v3) w3) := ⟨v3, rfl, by simpa [ints] using hown3, HB2.out.grown hgrow3 HB2.out.size (fun k hk => own_lt HO2.out k hk)⟩
  clear hown3 hgrow3 hc2
  go_wp2
  rw [rounds_succ]
  go_wp2
  go_ret
  exact HV.out
end Go.Proofs.YtpinmiplefidpaaGreatDoor.AN

namespace Go.Proofs.YtpinmiplefidpaaGreatDoor.AN
open Go.RowKit Go.Shelf
attribute [local go_sem] Oper.semAt_some

set_option maxRecDepth 100000 in
theorem said_ok (s : ByteArray) (w : World) : Calls Tryz.prog 142 #[.string s] w fun e w' => e = .returned (.func (.func 146) #[] #[.pointer (some ⟨w.heap.size, 0, none⟩)]) ∧ w.alloc (.cells #[.string s] 9) = w' := by
  go_enter Tryz.func142, Tryz.ntmps142
  go_wp2
  go_ret
  exact ⟨rfl, rfl⟩

/-- The letters of a text up to the first one that says nothing. -/
def first_ (bs : List UInt8) : List UInt8 := bs.takeWhile fun b => decide (num b.toNat ≠ 0)
theorem first_good : ∀ bs : List UInt8, Good (first_ bs)
  | [], _, hb => by cases hb
  | x :: bs, b, hb => by
    unfold first_ at hb
    rw [List.takeWhile_cons] at hb
    split at hb
    · rename_i hx
      rcases List.mem_cons.1 hb with rfl | hb
      · simpa using hx
      · exact first_good bs b hb
    · cases hb
theorem first_le (bs : List UInt8) : (first_ bs).length ≤ bs.length := (List.takeWhile_sublist _).length_le
theorem first_all : ∀ {bs : List UInt8}, Good bs → first_ bs = bs
  | [], _ => rfl
  | x :: bs, h => by
    have ih := first_all (bs := bs) fun b hb => h b (by simp [hb])
    unfold first_ at ih ⊢
    rw [List.takeWhile_cons, if_pos (by simpa using h x (by simp)), ih]
theorem first_lt {bs : List UInt8} (h : ¬ Good bs) : (first_ bs).length < bs.length := by
  refine Nat.lt_of_le_of_ne (first_le bs) fun e => h ?_
  have := (List.takeWhile_sublist (l := bs) fun b => decide (num b.toNat ≠ 0)).eq_of_length e
  have hg := first_good bs
  unfold first_ at hg
  rw [this] at hg
  exact hg
theorem good_take {bs : List UInt8} {k : Nat} (h : k < bs.length) (hg : Good (bs.take k)) (hb : num bs[k].toNat ≠ 0) : Good (bs.take (k + 1)) := by
  rw [List.take_succ_eq_append_getElem h]
  exact good_append.2 ⟨hg, fun x hx => by simp at hx; subst hx; exact hb⟩
theorem first_stop {bs : List UInt8} {k : Nat} (h : k < bs.length) (hg : Good (bs.take k)) (hb : num bs[k].toNat = 0) : first_ bs = bs.take k := by
  have e : bs = bs.take k ++ bs[k] :: bs.drop (k + 1) := by rw [← List.drop_eq_getElem_cons h, List.take_append_drop]
  unfold first_
  conv => lhs; rw [e]
  rw [List.takeWhile_append_of_pos (fun b hb => by simpa using hg b hb), List.takeWhile_cons, if_neg (by simpa using hb), List.append_nil]
theorem first_prefix {bs : List UInt8} {k : Nat} (hg : Good (bs.take k)) : bs.take k <+: first_ bs := by
  have e : bs = bs.take k ++ bs.drop k := (List.take_append_drop k bs).symm
  unfold first_
  conv => rhs; rw [e]
  rw [List.takeWhile_append_of_pos (fun b hb => by simpa using hg b hb)]
  exact List.prefix_append _ _

/-- What a round that goes on keeps: the blocks below n₀ that X does not name. -/
def KpS (X : Nat → Prop) (n₀ : Nat) (A B : World) : Prop := ∀ k, k < n₀ → ¬ X k → B.heap[k]? = A.heap[k]?
theorem KpS.refl (X : Nat → Prop) (n₀ : Nat) (A : World) : KpS X n₀ A A := fun _ _ _ => rfl
theorem KpS.trans {X : Nat → Prop} {n₀ : Nat} {A B C : World} (h : KpS X n₀ A B) (k : KpS X n₀ B C) : KpS X n₀ A C := fun i hi hx => (k i hi hx).trans (h i hi hx)
theorem kpS_b {X : Nat → Prop} {n₀ : Nat} {w : World} (hn : n₀ ≤ w.heap.size) (W : World) (l : Nat) (o o' : Obj) (hl : w.heap.size ≤ l) (h : W.heap[l]? = some o) (h1 : o.isCells = false) (h2 : o.isWalk = false) : KpS X n₀ W (W.putObj l o') := fun k hk _ =>
  (belowK_b hn W l o o' hl h h1 h2).block k hk
theorem KpS.of_below {X : Nat → Prop} {n₀ : Nat} {A B : World} (h : Below A.heap.size A B) (hn : n₀ ≤ A.heap.size) : KpS X n₀ A B := fun k hk _ => h.block k (by omega)

structure SaidAt (W : World) (X : Nat → Prop) (n₀ Bt : Nat) (s : ByteArray) : Prop where
  bt : W.cell? ⟨Bt, 0, none⟩ = some (.string s)
  env : Env W
  lb : Bt < n₀
  lt : (2 : Nat) < n₀
  xb : ¬ X Bt
  xt : ¬ X (2 : Nat)
theorem SaidAt.kp {W W' : World} {X : Nat → Prop} {n₀ Bt : Nat} {s : ByteArray} (h : SaidAt W X n₀ Bt s) (k : KpS X n₀ W W') : SaidAt W' X n₀ Bt s :=
  ⟨(World.cell?_of_block (a := ⟨Bt, 0, none⟩) (k Bt h.lb h.xb)).trans h.bt, h.env.same (k _ h.lt h.xt), h.lb, h.lt, h.xb, h.xt⟩

theorem index_q (b : Nat) (w : World) (he : Env w) : Calls Tryz.prog 147 #[.slice (some ⟨2, 0, none⟩) 4 4, .int .u8 (b : Int)] w fun e w' => e = .returned (.int .i64 (place b)) ∧ w' = w :=
  (index_ok b w he).mono fun _ _ ⟨h1, h2⟩ => ⟨h1, h2.symm⟩
theorem letters_slice (w : World) : (Instr.sliceAt 229 (.pointer (some ⟨2, 0, none⟩)) none none none).run Tryz.prog w = .ok (.slice (some ⟨2, 0, none⟩) 4 4) w := by kernel_rfl
theorem byte_data (s : ByteArray) (k : Nat) (h : k < s.size) : ∃ hk : k < s.data.toList.length, s.data.toList[k] = s[k] := ⟨by rw [← size_data]; exact h, rfl⟩

set_option maxRecDepth 100000 in
set_option maxHeartbeats 4000000 in
theorem said1_in (n : Nat) (hn : 1 ≤ n) (l Bt n₀ : Nat) (s : ByteArray) (hs : s.size ≤ 2000) (X : Nat → Prop) (J Jx : List Int → World → Prop)
    (hY : ∀ pre x W, J pre W → pre.length < (nums (first_ s.data.toList)).length → YieldAt Fence.wide (n - 1) Tryz.prog l #[.int .i64 x] W fun e W' =>
      (e = .returned (.bool true) ∧ J (pre ++ [x]) W' ∧ KpS X n₀ W W') ∨ (e = .returned (.bool false) ∧ Jx (pre ++ [x]) W'))
    (W : World) (hab : AbidesFrom W.heap.size J) (hA : SaidAt W X n₀ Bt s) (h0 : J [] W) :
    CallsIn Fence.wide n Tryz.prog 146 #[.func (.yield l) #[] #[], .pointer (some ⟨Bt, 0, none⟩)] W fun e W' => (∃ v, e = .returned v) ∧
      ((∃ ys, ys = nums (first_ s.data.toList) ∧ J ys W') ∨ (∃ pre, pre <+: nums (first_ s.data.toList) ∧ Jx pre W')) := by
  have hbt := hA.bt
  have HA := Lib.hid hA
  have HAB : Hid (∀ pre A q, J pre A → J pre (A.drewN q)) := fun pre A q h => hab pre A _ none h ⟨rfl, rfl, rfl, Nat.le_refl _, fun _ _ _ => rfl⟩ (fun _ h => by cases h)
  clear hab
  have HY := Lib.hid hY
  have H0 := Lib.hid h0
  have HSZ := Lib.hid (size_data s)
  clear hA hY h0
  refine callsIn_of_wp Tryz.func146 rfl trivial ?_ rfl
  simp only [Tryz.ntmps146, List.size_toArray, List.length_cons, List.length_nil, Nat.reduceAdd, Nat.reduceSub, Array.replicate_succ, Array.replicate_zero, List.push_toArray, List.append_toArray, List.nil_append, List.cons_append]
  gi_wp2
  gi_loopw [7] (fun i wr => ∃ (k : Nat), i = .int .i64 k ∧ k ≤ s.size ∧ Hid (J (nums (s.data.toList.take k)) wr) ∧ Hid (KpS X n₀ W wr) ∧ Hid (Good (s.data.toList.take k))) (fun i _ => s.size - (intOf i).toNat)
  case atStart => exact ⟨0, rfl, Nat.zero_le _, H0, KpS.refl _ _ _, good_nil⟩
  case round =>
    obtain ⟨k, rfl, hk, HJ, HK, HG⟩ := hrel
    have HA2 := Lib.hid (HA.out.kp HK.out)
    have hbt2 := HA2.out.bt
    by_cases hlt : k < s.size
    · obtain ⟨hkl, hb⟩ := byte_data s k hlt
      have hb' : s.data.toList[k].toNat = s[k].toNat := by rw [hb]
      have hfull := letters_slice
      clear hbt
      gi_wp2
      refine wpIn_wide.2 ?_
      go_quiet ((go_at_call 147; exact Calls.quiet_of_same (index_q _ _ (HA2.out.env.drewN _))))
      clear hfull hbt2
      obtain ⟨b, eb⟩ : ∃ b, s[k].toNat = b := ⟨_, rfl⟩
      rw [eb]
      have hb'e : s.data.toList[k].toNat = b := by rw [hb', eb]
      clear eb
      have HJD : Hid (J (nums (s.data.toList.take k)) (wr.drewN nq)) := HAB.out _ _ _ HJ.out
      have HKD : Hid (KpS X n₀ W (wr.drewN nq)) := HK
      by_cases hgood : num b = 0
      · have hp := place_bad hgood
        generalize place b = x at *
        have HP := Lib.hid hp
        clear hp
        gi_wp2_with (refine ⟨trivial, ?_⟩; gi_at_call 148; refine (callsIn_wide.2 (is_no _ _ HP.out)).mono ?_; rintro e w' ⟨rfl, rfl⟩)
        refine ⟨fun _ h => (by cases h), ?_⟩
        gi_wp2
        have hst := first_stop hkl HG.out (by rw [hb'e]; exact hgood)
        refine bodyPost_ret (results_none rfl _ _ _) rfl ?_
        exact ⟨⟨_, rfl⟩, .inl ⟨_, by rw [hst], HJD.out⟩⟩
      · obtain ⟨hp1, hp⟩ := place_good hgood
        have hgk := good_take hkl HG.out (by rw [hb'e]; exact hgood)
        have hsn := nums_snoc s.data.toList k hkl
        rw [hb'e, ← hp1] at hsn
        have hpre := first_prefix hgk
        have hlen : (nums (s.data.toList.take k)).length < (nums (first_ s.data.toList)).length := by
          have h1 := hpre.length_le
          rw [nums_length, nums_length]
          rw [List.length_take] at h1 ⊢
          omega
        generalize place b = x at *
        have HP := Lib.hid hp
        have HSN := Lib.hid hsn
        have HGK := Lib.hid hgk
        have hYx := HY.out _ x _ HJD.out hlen
        rw [← hsn] at hYx
        obtain ⟨fn, tmps, assign, body, hy, hR⟩ := hYx
        clear hp hsn hgk hpre hlen hp1 hgood hb' hb'e
        gi_wp2_with (refine ⟨trivial, ?_⟩; gi_at_call 148; refine (callsIn_wide.2 (is_yes _ _ HP.out)).mono ?_; rintro e w' ⟨rfl, rfl⟩)
        refine hR.mono ?_
        rintro e W3 (⟨rfl, hJ3, hk3⟩ | ⟨rfl, hJx3⟩)
        · have HJ4 := Lib.hid hJ3
          have HK4 := Lib.hid (HKD.out.trans hk3)
          clear hJ3 hk3 hy
          gi_wp2
          exact ⟨⟨k + 1, by go_num, by omega, HJ4.out, HK4.out, HGK.out⟩, by simp [intOf]; omega⟩
        · have HJ4 := Lib.hid hJx3
          clear hJx3 hy
          gi_wp2
          refine bodyPost_ret (results_none rfl _ _ _) rfl ?_
          have hx : nums (s.data.toList.take (k + 1)) <+: nums (first_ s.data.toList) := by
            obtain ⟨r, hr⟩ := first_prefix HGK.out
            exact ⟨nums r, by rw [← hr, nums_append]⟩
          exact ⟨⟨_, rfl⟩, .inr ⟨_, hx, HJ4.out⟩⟩
    · obtain rfl : k = s.size := by omega
      clear hbt
      gi_wp2
      go_end0
      have e : s.data.toList.take s.size = s.data.toList := by rw [HSZ.out]; exact List.take_length
      have hg := HG.out
      have hj := HJ.out
      rw [e] at hg hj
      exact ⟨⟨_, rfl⟩, .inl ⟨_, by rw [first_all hg], hj⟩⟩
theorem said_stops (n : Nat) (hn : 1 ≤ n) (Bt n₀ : Nat) (s : ByteArray) (hs : s.size ≤ 2000) (X : Nat → Prop) (w : World) (hA : SaidAt w X n₀ Bt s) (hn₀ : n₀ ≤ w.heap.size) :
    SeqStopsK Fence.wide n Tryz.prog 146 #[.pointer (some ⟨Bt, 0, none⟩)] (fun x : Int => #[Value.int .i64 x]) (KpS X n₀) (fun ys => ys = nums (first_ s.data.toList)) (fun pre => pre <+: nums (first_ s.data.toList)) (nums (first_ s.data.toList)).length w := fun l J Jx W hW hab _ hY h0 =>
  said1_in n hn l Bt n₀ s hs X J Jx hY W hab (hA.kp (KpS.of_below hW hn₀)) h0
end Go.Proofs.YtpinmiplefidpaaGreatDoor.AN

namespace Go.Proofs.YtpinmiplefidpaaGreatDoor.AN
open Go.RowKit Go.Shelf
attribute [local go_sem] Oper.semAt_some

theorem make_ints (m : Nat) (hm : m ≤ 4096) (W : World) : (Instr.makeSlice 164 (.int .i64 0) (.int .i64 m)).run Tryz.prog W = .ok (.slice (some ⟨W.heap.size, 0, none⟩) 0 m) (W.alloc (.cells (madeCells #[Value.int .i64 0] m) 3)) := by
  obtain ⟨i0, hi, hz0, hz1, hz2⟩ := info_parts info_int
  have := run_make (P := Tryz.prog) W 164 3 i0 _ Tryz.underlying164 hi hz0 .i64 .i64 0 m (by omega) (by omega) (by rw [hz2]; omega) (by omega)
  rw [this]
  simp [Value.cells, hz1]

set_option maxRecDepth 100000 in
theorem parse_many (s : ByteArray) (w : World) (h : 2000 < s.size) (h2 : s.size ≤ 140737488351232) : Calls Tryz.prog 126 #[.string s] w (ParseV s.data.toList w) := by
  have hp : Hid (pE s.data.toList = 11) := pE_many (by rw [← size_data]; exact h)
  have hl : Hid (pL s.data.toList = []) := pL_no (by rw [hp.out]; decide)
  go_enter Tryz.func126, Tryz.ntmps126
  go_wp2
  go_ret2
  exact ⟨_, by rw [hp.out]; rfl, by rw [hl.out]; exact Sl.nil _, Below.refl _ _⟩

theorem appended3 {W w1 : World} {N : Nat} {v v' u : Value} {k m : Nat} {xs ys : List Value} {tmp : Obj}
    (hv : Boxed W (N + 1) 164 v) (ht : Boxed W (N + 2) 9 u) (hrow : W.ownsRow N 3 1 v k xs) (hN : N + 3 ≤ W.heap.size)
    (hown' : w1.ownsRow N 3 1 v' m ys) (hgrow : (W.alloc tmp).grownBy w1 v.ownBlock) :
    Boxed w1 (N + 1) 164 v ∧ Boxed (w1.setCell ⟨N + 1, 0, none⟩ v') (N + 1) 164 v' ∧ (w1.setCell ⟨N + 1, 0, none⟩ v').ownsRow N 3 1 v' m ys ∧ KeepsOthers W (w1.setCell ⟨N + 1, 0, none⟩ v') ∧ Below N W (w1.setCell ⟨N + 1, 0, none⟩ v') ∧ KpS (fun k => k = N ∨ k = N + 1) (N + 3) W (w1.setCell ⟨N + 1, 0, none⟩ v') ∧ Boxed (w1.setCell ⟨N + 1, 0, none⟩ v') (N + 2) 9 u := by
  have hv1 : Boxed w1 (N + 1) 164 v := (hv.alloc tmp).kept hgrow (hv.not_row (by decide) hrow)
  have hn2 := ht.not_row (by decide) hrow
  have ht1 : Boxed w1 (N + 2) 9 u := (ht.alloc tmp).kept hgrow hn2
  have hge : ∀ j, v.ownBlock = some j → N ≤ j := fun j ej => (hrow.lt j ej).1
  refine ⟨hv1, hv1.set v', hown'.kept (grownBy_setCell' w1 (N + 1) v') (.inr (hv1.not_row (by decide) hown').symm), ?_, ?_, ?_, ?_⟩
  · refine ((KeepsOthers.alloc W tmp).trans (KeepsOthers.of_grownBy hgrow fun j o ej hj => ?_)).trans (KeepsOthers.setCell _ _ _)
    rcases (hrow.alloc tmp).2 with ⟨rfl, _⟩ | ⟨g, cap, cur, rfl, _, hgb, _⟩
    · simp [Value.ownBlock] at ej
    · obtain rfl : g = j := by simpa [Value.ownBlock] using ej
      rw [hgb] at hj; cases hj; rfl
  · exact (((Below.refl N W).alloc (by omega) tmp).grown hgrow (by simp; omega) fun j ej => hge j ej).setCell (p := ⟨N + 1, 0, none⟩) (by simp) v'
  · intro j hj hx
    have hx1 : j ≠ N := fun e => hx (.inl e)
    have hx2 : j ≠ N + 1 := fun e => hx (.inr e)
    rw [Below.heap_setCell _ _ _ _ hx2, hgrow.block j (by simp; omega) (fun e => ?_)]
    · exact Below.heap_alloc _ _ _ (by omega)
    · have h1 := hge j e.symm
      have h2 : j = N + 2 := by omega
      subst h2
      exact hn2 e
  · exact (Below.heap_setCell w1 ⟨N + 1, 0, none⟩ v' (N + 2) (by simp)).trans ht1

set_option maxRecDepth 100000 in
set_option maxHeartbeats 2000000 in
theorem parse_few (s : ByteArray) (w : World) (he : Env w) (hs : s.size ≤ 2000) : Calls Tryz.prog 126 #[.string s] w (ParseV s.data.toList w) := by
  obtain ⟨i0, hi, hz0, hz1, hz2⟩ := info_parts info_int
  have hmk := make_ints s.size (by omega)
  have HE := Lib.hid he
  have HSZ := Lib.hid (size_data s)
  clear he
  refine (callsIn_wide (n := 3)).1 ?_
  refine callsIn_of_wp_marks Tryz.func126 rfl trivial ?_ rfl
  simp only [Tryz.ntmps126, List.size_toArray, List.length_cons, List.length_nil, Nat.reduceAdd, Nat.reduceSub, Array.replicate_succ, Array.replicate_zero, List.push_toArray, List.append_toArray, List.nil_append, List.cons_append]
  gi_wp2_with (refine ⟨trivial, ?_⟩; gi_at_call 142; refine (callsIn_wide.2 (said_ok _ _)).mono ?_; rintro e w' ⟨rfl, rfl⟩)
  have b0 := Bk.new w 3 (madeCells #[Value.int .i64 0] s.size)
  obtain ⟨w1, hw1⟩ : ∃ w1, w.alloc (.cells (madeCells #[Value.int .i64 0] s.size) 3) = w1 := ⟨_, rfl⟩
  rw [hw1] at b0 ⊢
  have hs1 : w1.heap.size = w.heap.size + 1 := by rw [← hw1]; simp
  have hB1 : Below w.heap.size w w1 := by rw [← hw1]; exact (Below.refl _ w).alloc (Nat.le_refl _) _
  have b1 := Boxed.new w1 164 (.slice (some ⟨w.heap.size, 0, none⟩) 0 s.size)
  have b2 := Boxed.new (w1.alloc (.cells #[.slice (some ⟨w.heap.size, 0, none⟩) 0 s.size] 164)) 9 (.string s)
  rw [World.size_alloc, hs1] at b2
  rw [hs1] at b1
  obtain ⟨w2, hw2⟩ : ∃ w2, (w1.alloc (.cells #[.slice (some ⟨w.heap.size, 0, none⟩) 0 s.size] 164)).alloc (.cells #[.string s] 9) = w2 := ⟨_, rfl⟩
  rw [hw2] at b2 ⊢
  have b1' : Boxed w2 (w.heap.size + 1) 164 (.slice (some ⟨w.heap.size, 0, none⟩) 0 s.size) := by rw [← hw2]; exact b1.alloc _
  have hsz : w2.heap.size = w.heap.size + 3 := by rw [← hw2]; simp [hs1]
  have hB0 : Below w.heap.size w w2 := by rw [← hw2]; exact (hB1.alloc (by omega) _).alloc (by simp; omega) _
  have hmz : (madeCells #[Value.int .i64 0] s.size).size = s.size * 1 := by
    have := size_madeCells #[Value.int .i64 0] s.size
    simpa using this
  have hrow0 : w2.ownsRow w.heap.size 3 1 (.slice (some ⟨w.heap.size, 0, none⟩) 0 s.size) 0 [] :=
    ⟨rfl, .inr ⟨w.heap.size, s.size, _, rfl, Nat.le_refl _, by rw [← hw2]; exact (b0.same (Below.heap_alloc _ _ _ (by omega))).same (Below.heap_alloc _ _ _ (by simp; omega)), Nat.zero_le _, by unfold maxLen; omega, hmz, rfl⟩⟩
  have hA : SaidAt w2 (fun k => k = w.heap.size ∨ k = w.heap.size + 1) (w.heap.size + 3) (w.heap.size + 2) s :=
    ⟨b2.cell, HE.out.below hB0, by omega, by have := HE.out.lt; omega, by omega, by have := HE.out.lt; omega⟩
  have hseq := said_stops 2 (by decide) (w.heap.size + 2) (w.heap.size + 3) s hs _ w2 hA (by omega)
  have HSEQ := Lib.hid hseq
  clear hseq hA hmk
  refine wpIn_rangeFunc_ownG rfl (by decide) (gf := 146) (lb := #[.pointer (some ⟨w.heap.size + 2, 0, none⟩)]) rfl trivial (enters_of Tryz.func146 (by kernel_rfl) rfl)
    HSEQ.out KpS.trans (kpS_b (by omega)) (Below.refl _ _) (fun _ => rfl)
    (fun pre W => (((∃ v, Boxed W (w.heap.size + 1) 164 v ∧ W.ownsRow w.heap.size 3 1 v pre.length (ints pre) ∧ True) ∧ w.heap.size + 3 ≤ W.heap.size) ∧ Boxed W (w.heap.size + 2) 9 (.string s)) ∧ Below w.heap.size w W)
    (fun _ _ _ => False)
    (OwnFrom.and (OwnFrom.and (OwnFrom.and (Own.from (holdsRow_own w.heap.size (w.heap.size + 1) 164 3 1 (fun pre => pre.length) (fun pre => ints pre) (fun _ _ => True)) _) (fun _ _ _ _ hs hg _ => Nat.le_trans hs hg.size)) (Own.from (fun _ _ _ _ hs hg hr => hs.kept hg (fun e' => by obtain ⟨o, ho, hc⟩ := hr _ e'.symm; rw [show _ = _ from hs] at ho; cases ho; cases hc)) _)) (ownFrom_below (Nat.le_refl _) (by omega)))
    (fun _ _ _ _ _ hs _ _ => hs)
    ⟨⟨⟨⟨_, b1', hrow0, trivial⟩, by omega⟩, b2⟩, hB0⟩
    (fun x => { tmps := #[.string s, undef, .slice none 0 0, .int .i64 0, .pointer (some ⟨w.heap.size + 1, 0, none⟩), .int .i64 x, .string s, .int .i64 s.size, .bool (decide (2000 < (s.size : Int))), .string s, .int .i64 s.size, .slice (some ⟨w.heap.size, 0, none⟩) 0 s.size, .string s, .func (.func 146) #[] #[.pointer (some ⟨w.heap.size + 2, 0, none⟩)], .int .i64 x, undef, undef, undef, undef, undef, undef, undef, undef, undef, undef], defers := [] }) ?assign ?body ?done ?stop
  case assign =>
    intro l x W K hK
    gi_wp2
    exact hK
  case body =>
    rintro l pre x W ⟨⟨⟨⟨v, hv, hrow, _⟩, hsW⟩, hT⟩, hB⟩ hlt2
    have hc := hv.cell
    have hlt3 : pre.length < 2001 := by
      have h1 := first_le s.data.toList
      have h2 := HSZ.out
      rw [nums_length] at hlt2
      omega
    clear hlt2
    gi_wp2_with (gi_at_builtin; refine wpListIn_append_own _ rfl _ _ 164 rfl w.heap.size 3 i0 (.int .i64 0) 1 8 Tryz.underlying164 hi hz0 hz1 hz2 rfl (by decide) _ _ _ rfl (hrow.alloc _) ⟨W.heap.size, 0, none⟩ 1 1 [.int .i64 x] rfl rfl (cell_one_new _ _ _) (by simp [Value.oneCell']) (by unfold maxLen; omega) (by omega) (by simp; omega) ?_; intro v' w3 hown' hgrow _; obtain ⟨g', cap', rfl⟩ := ownsRow_succ hown'; obtain ⟨hv1, hv2, hr2, hk2, hb2, hkp, ht2⟩ := appended3 hv hT hrow hsW hown' hgrow; have hc1 := hv1.cell; have hf1 := hv1.frozen)
    exact ⟨hk2.from _, hkp, ⟨⟨⟨_, hv2, by simpa [ints] using hr2, trivial⟩, Nat.le_trans hsW hb2.size⟩, ht2⟩, hB.trans hb2⟩
  case done =>
    rintro D ys W hD rfl ⟨⟨⟨⟨v, hv, hrow, _⟩, hsW⟩, hT⟩, hB⟩ hK
    have hc := hv.cell
    have hsl := Sl.of_own hrow
    obtain ⟨a, c, rfl, hsl'⟩ := hsl.len
    have hrow' := Sl.of_own (ownsRow_putObj hrow (.deferred none) hK rfl)
    have hbe := hB.trans (belowK_b (w := w) (Nat.le_refl _) W D _ (.deferred none) (by omega) hK rfl rfl)
    have hll : (nums (first_ s.data.toList)).length = (first_ s.data.toList).length := nums_length _
    have HR := Lib.hid (And.intro hrow' hbe)
    have HLL := Lib.hid hll
    clear hrow' hbe hsl hsl' hrow hll
    by_cases hg : Good s.data.toList
    · have hfe := first_all hg
      have hpe : pE s.data.toList = 0 := pE_ok (by rw [← HSZ.out]; exact hs) hg
      have hpl : pL s.data.toList = nums (first_ s.data.toList) := by rw [pL_ok hpe, hfe]
      have HP := Lib.hid (And.intro hpe hpl)
      have hlen : (nums (first_ s.data.toList)).length = s.size := by rw [nums_length, hfe, HSZ.out]
      clear hfe hpe hpl hg
      generalize nums (first_ s.data.toList) = N at *
      rw [hlen] at hc
      gi_wp2
      refine ⟨by simp, .inl ⟨_, _, rfl, run_takeDeferred hK, ?_⟩⟩
      refine ⟨.tuple #[.slice a s.size c, .int .i64 0], ?_, _, by rw [HP.out.1]; rfl, ?_, HR.out.2⟩
      · simp [results, Tryz.f126, go_sem]
      · rw [HP.out.2]
        have := HR.out.1
        rwa [hlen] at this
    · have hlt := first_lt hg
      have hpe : pE s.data.toList = 9 := pE_form (by rw [← HSZ.out]; exact hs) hg
      have hpl : pL s.data.toList = [] := pL_no (by rw [hpe]; decide)
      have HP := Lib.hid (And.intro hpe hpl)
      have hlen : (nums (first_ s.data.toList)).length < s.size := by rw [nums_length, HSZ.out]; exact hlt
      clear hlt hpe hpl hg
      generalize nums (first_ s.data.toList) = N at *
      gi_wp2
      refine ⟨by simp, .inl ⟨_, _, rfl, run_takeDeferred hK, ?_⟩⟩
      refine ⟨.tuple #[.slice none 0 0, .int .i64 9], ?_, _, by rw [HP.out.1]; rfl, ?_, HR.out.2⟩
      · simp [results, Tryz.f126, go_sem]
      · rw [HP.out.2]
        exact Sl.nil _
  case stop =>
    rintro D c pre W _ _ h _
    exact h.elim
theorem parse_ok (s : ByteArray) (w : World) (he : Env w) (h : s.size ≤ 140737488351232) : Calls Tryz.prog 126 #[.string s] w (ParseV s.data.toList w) := by
  by_cases h1 : s.size ≤ 2000
  · exact parse_few s w he h1
  · exact parse_many s w (by omega) h
end Go.Proofs.YtpinmiplefidpaaGreatDoor.AN

namespace Go.Proofs.YtpinmiplefidpaaGreatDoor.AN
open Go.RowKit

theorem byte_at_ (s : ByteArray) (k : Nat) (h : k < s.size) : ∃ (hk : k < s.data.toList.length) (b : UInt8), s.data.toList[k] = b ∧ s[k].toNat = b.toNat := ⟨by rw [← size_data]; exact h, _, rfl, rfl⟩
set_option maxRecDepth 100000 in
theorem rparse_many (s : ByteArray) (w : World) (h : 2000 < s.size) (h2 : s.size ≤ 140737488351232) : Calls Tryz.prog 128 #[.string s] w (ParseV s.data.toList w) := by
  have hp : Hid (pE s.data.toList = 11) := pE_many (by rw [← size_data]; exact h)
  have hl : Hid (pL s.data.toList = []) := pL_no (by rw [hp.out]; decide)
  go_enter Tryz.func128, Tryz.ntmps128
  go_wp2
  go_ret2
  exact ⟨_, by rw [hp.out]; rfl, by rw [hl.out]; exact Sl.nil _, Below.refl _ _⟩

theorem nums_len_take (bs : List UInt8) (k : Nat) (h : k ≤ bs.length) : (nums (bs.take k)).length = k := by rw [nums_length, List.length_take]; omega
set_option maxRecDepth 100000 in
set_option maxHeartbeats 4000000 in
theorem rparse_few (s : ByteArray) (w : World) (hs : s.size ≤ 2000) : Calls Tryz.prog 128 #[.string s] w (ParseV s.data.toList w) := by
  obtain ⟨i0, hi, hz0, hz1, hz2⟩ := info_parts info_int
  have HSZ := Lib.hid (size_data s)
  go_enter Tryz.func128, Tryz.ntmps128
  go_wp2
  go_loopw [4, 5] (fun v i wr => ∃ k : Nat, k ≤ s.size ∧ i = .int .i64 k ∧ Hid (wr.ownsRow w.heap.size 3 1 v (nums (s.data.toList.take k)).length (ints (nums (s.data.toList.take k)))) ∧ Hid (Good (s.data.toList.take k)) ∧ Hid (Below w.heap.size w wr)) (fun _ i _ => s.size - (intOf i).toNat)
  case atStart => exact ⟨0, Nat.zero_le _, rfl, World.ownsRow_nil _ _ _ _, good_nil, Below.refl _ _⟩
  case round =>
    obtain ⟨k, hk, rfl, HO, HG, HB⟩ := hrel
    by_cases hlt : k < s.size
    · obtain ⟨hkl, b, hb1, hb2⟩ := byte_at_ s k hlt
      have hsz := HB.out.size
      have hown := HO.out
      have HNL := Lib.hid (nums_len_take s.data.toList k (by omega))
      have hnl : (nums (s.data.toList.take k)).length ≤ 2000 := by rw [HNL.out]; omega
      have HSN := Lib.hid (nums_snoc s.data.toList k hkl)
      have HGK : Hid (num b.toNat ≠ 0 → Good (s.data.toList.take (k + 1))) := fun h => by
        rw [List.take_succ_eq_append_getElem hkl]
        exact good_append.2 ⟨HG.out, fun x hx => by rw [List.mem_singleton.1 hx, hb1]; exact h⟩
      have HNG : Hid (num b.toNat = 0 → ¬ Good s.data.toList) := fun h hg => hg b (by rw [← hb1]; exact List.getElem_mem hkl) h
      rw [hb1] at HSN
      generalize nums (s.data.toList.take k) = L at *
      have HLE := Lib.hid hnl
      obtain ⟨x, hx⟩ : ∃ x, b.toNat = x := ⟨_, rfl⟩
      rw [hx] at hb2 HGK HNG HSN
      clear hb1 hx
      by_cases c1 : x = 111
      · subst c1
        have HS2 : Hid (nums (s.data.toList.take (k + 1)) = L ++ [1]) := HSN
        have HG2 := Lib.hid (HGK.out (by decide))
        clear HGK HNG HSN
        go_wp2_with (at_builtin; refine wpList_append_own _ rfl _ _ 164 rfl w.heap.size 3 i0 (.int .i64 0) 1 8 Tryz.underlying164 hi hz0 hz1 hz2 rfl (by decide) _ _ _ rfl (hown.alloc _) ⟨wr.heap.size, 0, none⟩ 1 1 [.int .i64 1] rfl rfl ?c1 ?c2 ?c3 ?c4 ?c5 ?_)
        case c1 =>
          intro j u hj
          match j, hj with
          | 0, hj => simp at hj; subst hj; simp [Addr.add]
        case c2 => intro u hu; simp at hu; subst hu; rfl
        case c3 => have := HLE.out; unfold maxLen; omega
        case c4 => have := HLE.out; omega
        case c5 => simp; omega
        intro v' w2 hown' hgrow _
        have HB2 := Lib.hid ((HB.out.alloc hsz _).grown hgrow (by simp; omega) (fun q hq => (hown.lt q hq).1))
        have HO2 : Hid (w2.ownsRow w.heap.size 3 1 v' (L ++ [1]).length (ints (L ++ [1]))) := by
          unfold Hid; simpa [ints] using hown'
        clear hown' hgrow hown
        go_wp2
        go_roundw
        case rel => exact ⟨k + 1, by omega, by go_num, by rw [HS2.out]; exact HO2.out, HG2.out, HB2.out⟩
        case measure => simp [intOf]; omega
      by_cases c2 : x = 108
      · subst c2
        have HS2 : Hid (nums (s.data.toList.take (k + 1)) = L ++ [2]) := HSN
        have HG2 := Lib.hid (HGK.out (by decide))
        clear HGK HNG HSN c1
        go_wp2_with (at_builtin; refine wpList_append_own _ rfl _ _ 164 rfl w.heap.size 3 i0 (.int .i64 0) 1 8 Tryz.underlying164 hi hz0 hz1 hz2 rfl (by decide) _ _ _ rfl (hown.alloc _) ⟨wr.heap.size, 0, none⟩ 1 1 [.int .i64 2] rfl rfl ?c1 ?c2 ?c3 ?c4 ?c5 ?_)
        case c1 =>
          intro j u hj
          match j, hj with
          | 0, hj => simp at hj; subst hj; simp [Addr.add]
        case c2 => intro u hu; simp at hu; subst hu; rfl
        case c3 => have := HLE.out; unfold maxLen; omega
        case c4 => have := HLE.out; omega
        case c5 => simp; omega
        intro v' w2 hown' hgrow _
        have HB2 := Lib.hid ((HB.out.alloc hsz _).grown hgrow (by simp; omega) (fun q hq => (hown.lt q hq).1))
        have HO2 : Hid (w2.ownsRow w.heap.size 3 1 v' (L ++ [2]).length (ints (L ++ [2]))) := by
          unfold Hid; simpa [ints] using hown'
        clear hown' hgrow hown
        go_wp2
        go_roundw
        case rel => exact ⟨k + 1, by omega, by go_num, by rw [HS2.out]; exact HO2.out, HG2.out, HB2.out⟩
        case measure => simp [intOf]; omega
      by_cases c3 : x = 102
      · subst c3
        have HS2 : Hid (nums (s.data.toList.take (k + 1)) = L ++ [3]) := HSN
        have HG2 := Lib.hid (HGK.out (by decide))
        clear HGK HNG HSN c1 c2
        go_wp2_with (at_builtin; refine wpList_append_own _ rfl _ _ 164 rfl w.heap.size 3 i0 (.int .i64 0) 1 8 Tryz.underlying164 hi hz0 hz1 hz2 rfl (by decide) _ _ _ rfl (hown.alloc _) ⟨wr.heap.size, 0, none⟩ 1 1 [.int .i64 3] rfl rfl ?c1 ?c2 ?c3 ?c4 ?c5 ?_)
        case c1 =>
          intro j u hj
          match j, hj with
          | 0, hj => simp at hj; subst hj; simp [Addr.add]
        case c2 => intro u hu; simp at hu; subst hu; rfl
        case c3 => have := HLE.out; unfold maxLen; omega
        case c4 => have := HLE.out; omega
        case c5 => simp; omega
        intro v' w2 hown' hgrow _
        have HB2 := Lib.hid ((HB.out.alloc hsz _).grown hgrow (by simp; omega) (fun q hq => (hown.lt q hq).1))
        have HO2 : Hid (w2.ownsRow w.heap.size 3 1 v' (L ++ [3]).length (ints (L ++ [3]))) := by
          unfold Hid; simpa [ints] using hown'
        clear hown' hgrow hown
        go_wp2
        go_roundw
        case rel => exact ⟨k + 1, by omega, by go_num, by rw [HS2.out]; exact HO2.out, HG2.out, HB2.out⟩
        case measure => simp [intOf]; omega
      have hbad := HNG.out (num_no c1 c2 c3)
      have hp : Hid (pE s.data.toList = 9) := pE_form (by rw [← HSZ.out]; exact hs) hbad
      have hl : Hid (pL s.data.toList = []) := pL_no (by rw [hp.out]; decide)
      have n1 : ((x : Int) == 111) = false := by simp; omega
      have n2 : ((x : Int) == 108) = false := by simp; omega
      have n3 : ((x : Int) == 102) = false := by simp; omega
      clear hbad c1 c2 c3 HGK HNG HSN hown
      go_wp2
      go_ret2
      exact ⟨_, by rw [hp.out]; rfl, by rw [hl.out]; exact Sl.nil _, HB.out⟩
    · obtain rfl : k = s.size := by omega
      have e : s.data.toList.take s.size = s.data.toList := by rw [HSZ.out]; exact List.take_length
      have hg := HG.out
      have ho := HO.out
      rw [e] at hg ho
      have hp : Hid (pE s.data.toList = 0) := pE_ok (by rw [← HSZ.out]; exact hs) hg
      have hl : Hid (pL s.data.toList = nums s.data.toList) := pL_ok hp.out
      have HS := Lib.hid (Sl.of_own ho)
      clear hg ho e
      go_wp2
      go_ret2
      exact ⟨_, by rw [hp.out]; rfl, by rw [hl.out]; exact HS.out, HB.out⟩
theorem rparse_ok (s : ByteArray) (w : World) (h : s.size ≤ 140737488351232) : Calls Tryz.prog 128 #[.string s] w (ParseV s.data.toList w) := by
  by_cases h1 : s.size ≤ 2000
  · exact rparse_few s w h1
  · exact rparse_many s w (by omega) h
end Go.Proofs.YtpinmiplefidpaaGreatDoor.AN

namespace Go.Proofs.YtpinmiplefidpaaGreatDoor.AN
open Go.RowKit

/-! ### slices that are read -/
/-- The slice value v reads as the numbers l, of kind k, cell for cell. -/
def Rd (k : IntKind) (w : World) (v : Value) (l : List Int) : Prop :=
  ∃ a c, v = .slice a l.length c ∧ l.length ≤ c ∧ c ≤ 9223372036854775807 ∧ (a = none → c = 0) ∧ (0 < l.length → ∃ g off, a = some ⟨g, off, none⟩ ∧ g < w.heap.size ∧ ∀ j x, l[j]? = some x → w.cell? ⟨g, off + j, none⟩ = some (.int k x))
section
variable {k : IntKind} {w w' : World} {v : Value} {l : List Int}
theorem Rd.below (h : Rd k w v l) (hb : Below w.heap.size w w') : Rd k w' v l := by
  obtain ⟨a, c, e, h1, h2, h3, h4⟩ := h
  refine ⟨a, c, e, h1, h2, h3, fun h0 => ?_⟩
  obtain ⟨g, off, e2, hg, hc⟩ := h4 h0
  exact ⟨g, off, e2, Nat.lt_of_lt_of_le hg hb.size, fun j x hj => (hb.cell (p := ⟨g, off + j, none⟩) hg).trans (hc j x hj)⟩
theorem Rd.of_sl (h : Sl w v l) : Rd .i64 w v l := by
  obtain ⟨a, c, e, h1, h2, h3, h4⟩ := h
  refine ⟨a, c, e, h1, by unfold maxLen at h2; omega, h3, fun h0 => ?_⟩
  cases a with
  | none => have := h3 rfl; omega
  | some b =>
    obtain ⟨g, off, cur, e2, hg, hc⟩ := h4 b rfl
    exact ⟨g, off, by rw [e2], hg.lt, fun j x hj => by rw [hg.cell]; exact hc j x hj⟩
theorem Rd.len (h : Rd k w v l) : ∃ a c, v = .slice a l.length c ∧ Rd k w (.slice a l.length c) l := by
  obtain ⟨a, c, e, _⟩ := id h
  subst e
  exact ⟨a, c, rfl, h⟩
theorem Rd.cap {a : Option Addr} {n c : Nat} (h : Rd k w (.slice a n c) l) : n = l.length ∧ l.length ≤ c ∧ c ≤ 9223372036854775807 ∧ (a = none → c = 0) := by
  obtain ⟨a', c', e, h1, h2, h3, h4⟩ := h
  injection e with e1 e2 e3
  subst e1 e2 e3
  exact ⟨rfl, h1, h2, h3⟩
theorem Rd.cell {a : Option Addr} {n c : Nat} (h : Rd k w (.slice a n c) l) {j : Nat} (hj : j < l.length) : ∃ g off, a = some ⟨g, off, none⟩ ∧ g < w.heap.size ∧ w.cell? ⟨g, off + j, none⟩ = some (.int k l[j]) := by
  obtain ⟨a', c', e, h1, h2, h3, h4⟩ := h
  injection e with e1 e2 e3
  subst e1 e2 e3
  obtain ⟨g, off, e2, hg, hc⟩ := h4 (by omega)
  exact ⟨g, off, e2, hg, hc j _ (List.getElem?_eq_getElem hj)⟩
/-- The first m elements. -/
theorem Rd.take {a : Option Addr} {n c m : Nat} (h : Rd k w (.slice a n c) l) (hm : m ≤ l.length) : Rd k w (.slice a m c) (l.take m) := by
  obtain ⟨a', c', e, h1, h2, h3, h4⟩ := h
  injection e with e1 e2 e3
  subst e1 e3
  refine ⟨a, c, by rw [List.length_take, Nat.min_eq_left hm], by rw [List.length_take]; omega, h2, h3, fun h0 => ?_⟩
  rw [List.length_take] at h0
  obtain ⟨g, off, e4, hg, hc⟩ := h4 (by omega)
  refine ⟨g, off, e4, hg, fun j x hj => hc j x ?_⟩
  rw [List.getElem?_take] at hj
  split at hj
  · exact hj
  · cases hj
end

/-! ### bytes and strings -/
def bytes (l : List UInt8) : List Value := l.map fun b => .int .u8 (b.toNat : Int)
theorem info_u8 : (Tryz.prog.info? 5).map (fun i => (i.zero, i.size, i.bytes)) = some (some (.int .u8 0), 1, 1) := by kernel_rfl
/-- A slice of bytes of one's own, as a string. -/
theorem conv_own {W : World} {base : Nat} {v : Value} {l : List UInt8} (h : W.ownsRow base 5 1 v l.length (bytes l)) : (convert 73 9 v).run Tryz.prog W = .ok (.string ⟨l.toArray⟩) W := by
  rcases h.2 with ⟨rfl, h0⟩ | ⟨g, cap, cur, rfl, h1, h2, h3, h4, h5, h6⟩
  · have : l = [] := List.eq_nil_of_length_eq_zero h0
    subst this
    rw [run_convert_bytes_string W 73 9 5 none 0 0 Tryz.underlying73 Tryz.underlying5 Tryz.underlying9]
    simp [Conv.bytesToString, Sem.run_pure]
    rfl
  · refine run_convert_bytes_back (P := Tryz.prog) W 73 9 5 ⟨g, 0, none⟩ cap l Tryz.underlying73 Tryz.underlying5 Tryz.underlying9 fun j hj => ?_
    have e : (⟨g, 0, none⟩ : Addr).add j = ⟨g, j, none⟩ := by unfold Addr.add; split <;> simp_all
    have hb : (bytes l)[j]? = some (.int .u8 (l[j].toNat : Int)) := by simp [bytes, hj]
    rw [← h6, List.getElem?_take_of_lt (by omega), Array.getElem?_toList] at hb
    rw [e, (show Bk W g 5 cur from h2).cell]; exact hb
theorem bytes_one (b : UInt8) (l : List UInt8) : bytes (l ++ [b]) = bytes l ++ [.int .u8 (b.toNat : Int)] := by simp [bytes]

/-- A text and an error, as Print gives them. -/
def PrintV (l : List Int) (w : World) (e : Ending) (w' : World) : Prop :=
  e = .returned (.tuple #[.string ⟨(wT l).toArray⟩, .int .i64 (wE l)]) ∧ Below w.heap.size w w'

theorem make_bytes (m : Nat) (hm : m ≤ 4096) (W : World) : (Instr.makeSlice 73 (.int .i64 0) (.int .i64 m)).run Tryz.prog W = .ok (.slice (some ⟨W.heap.size, 0, none⟩) 0 m) (W.alloc (.cells (madeCells #[Value.int .u8 0] m) 5)) := by
  obtain ⟨i0, hi, hz0, hz1, hz2⟩ := info_parts info_u8
  have := run_make (P := Tryz.prog) W 73 5 i0 _ Tryz.underlying73 hi hz0 .i64 .i64 0 m (by omega) (by omega) (by rw [hz2]; omega) (by omega)
  rw [this]
  simp [Value.cells, hz1]
theorem made_own (w : World) (m : Nat) (hm : m ≤ 4096) : (w.alloc (.cells (madeCells #[Value.int .u8 0] m) 5)).ownsRow w.heap.size 5 1 (.slice (some ⟨w.heap.size, 0, none⟩) 0 m) 0 [] :=
  ⟨rfl, .inr ⟨w.heap.size, m, _, rfl, Nat.le_refl _, Bk.new w _ _, Nat.zero_le _, by unfold maxLen; omega, by have := size_madeCells #[Value.int .u8 0] m; simpa using this, rfl⟩⟩

end Go.Proofs.YtpinmiplefidpaaGreatDoor.AN

namespace Go.Proofs.YtpinmiplefidpaaGreatDoor.AN
open Go.RowKit

theorem kept_bel {w0 a b : World} {k : Nat} (h : Below w0.heap.size w0 a) (k1 : Kept (· = k) a b) (hk : w0.heap.size ≤ k) : Below w0.heap.size w0 b :=
  h.trans (k1.below h.size fun _ e => by subst e; exact hk)

/-- The block of a source's answers is one that P names. -/
def At (w : World) (b : Nat) (P : Nat → Prop) : Prop := ∃ a n c, w.cell? ⟨b, 1, none⟩ = some (.slice a n c) ∧ ∀ a0, a = some a0 → P a0.block
theorem At.same {w w' : World} {b : Nat} {P : Nat → Prop} (h : At w b P) (e : w'.heap[b]? = w.heap[b]?) : At w' b P := by
  obtain ⟨a, n, c, h1, h2⟩ := h
  exact ⟨a, n, c, (World.cell?_of_block (a := ⟨b, 1, none⟩) e).trans h1, h2⟩
theorem At.lt {w : World} {b : Nat} {P : Nat → Prop} (h : At w b P) : b < w.heap.size := by
  obtain ⟨a, n, c, h1, h2⟩ := h
  exact World.block_lt_of_cell? _ _ h1
theorem At.below {w w' : World} {b : Nat} {P : Nat → Prop} (h : At w b P) (hb : Below w.heap.size w w') : At w' b P := h.same (hb.block b h.lt)
theorem At.mono {w : World} {b : Nat} {P Q : Nat → Prop} (h : At w b P) (k : ∀ j, P j → Q j) : At w b Q := by
  obtain ⟨a, n, c, h1, h2⟩ := h
  exact ⟨a, n, c, h1, fun a0 e => k _ (h2 a0 e)⟩
theorem At.here {w : World} {b n c : Nat} {a : Option Addr} {P : Nat → Prop} (h : At w b P) (hc : w.cell? ⟨b, 1, none⟩ = some (.slice a n c)) : ∀ a0, a = some a0 → P a0.block := by
  obtain ⟨a', n', c', h1, h2⟩ := h
  rw [hc] at h1
  injection h1 with h1
  injection h1 with h1 _ _
  subst h1
  exact h2
theorem At.put {t : TypeId} {w : World} {b n c : Nat} {a : Option Addr} {u v : Value} {P : Nat → Prop} (h : Bk w b t #[u, v]) (k : ∀ a0, a = some a0 → P a0.block) : At (w.setCell ⟨b, 1, none⟩ (.slice a n c)) b P :=
  ⟨a, n, c, by rw [(h.put 1 (.slice a n c)).cell]; rfl, k⟩

/-! ### answer.Source -/
set_option maxRecDepth 100000 in
theorem new_ok (w : World) : Calls Tryz.prog 54 #[] w fun e w' => e = .returned (.pointer (some ⟨w.heap.size, 0, none⟩)) ∧ SrcW 166 w' w.heap.size [] ∧ Below w.heap.size w w' := by
  go_enter Tryz.func54, Tryz.ntmps54
  go_wp2
  go_ret
  exact ⟨rfl, ⟨src_nil, _, _, Bk.new w _ _, Sl.nil _⟩, (Below.refl _ w).alloc (Nat.le_refl _) _⟩
set_option maxHeartbeats 1000000 in
set_option maxRecDepth 100000 in
theorem next_at (b : Nat) (L : List Int) (w : World) (h : SrcW 166 w b L) : Calls Tryz.prog 64 #[.pointer (some ⟨b, 0, none⟩)] w fun e w' => e = .returned (.int .i64 (L.headD 1)) ∧ SrcW 166 w' b L.tail ∧ Kept (· = b) w w' ∧ Hid (∀ P : Nat → Prop, At w b P → At w' b P) := by
  obtain ⟨a, c, hc0, hc1, hf, hsl, hbk⟩ := h.cells
  have H := Lib.hid h
  have HB := Lib.hid hbk
  have HS := Lib.hid hsl
  cases L with
  | nil =>
    clear h hbk hsl
    go_enter Tryz.func64, Tryz.ntmps64
    go_wp2_with (go_at_call 106; refine (valid_yes _ _ hc0).mono ?_; rintro e w' ⟨rfl, rfl⟩)
    go_ret
    exact ⟨rfl, H.out, Kept.refl _ _, fun _ h => h⟩
  | cons x l =>
    obtain ⟨g, off, rfl, hg, hcell, _⟩ := hsl.cell (j := 0) (by simp)
    obtain ⟨_, hcap, _, _⟩ := hsl.cap
    simp only [List.getElem_cons_zero, Nat.add_zero] at hcell
    by_cases hc : c = 1
    · subst hc
      have hl : l = [] := List.eq_nil_of_length_eq_zero (by rw [List.length_cons] at hcap; omega)
      subst hl
      have hP : Hid (SrcW 166 (w.setCell ⟨b, 1, none⟩ (.slice (some ⟨g, off, none⟩) 0 0)) b []) := SrcW.put hbk (src_tail h.ok) (Sl.tail0 hsl) (by decide)
      have hK : Hid (Kept (· = b) w (w.setCell ⟨b, 1, none⟩ (.slice (some ⟨g, off, none⟩) 0 0))) := (Kept.refl (· = b) w).put1 1 _
      simp only [List.length_cons, List.length_nil, Nat.zero_add] at hc1 hcap
      have hA : Hid (∀ P : Nat → Prop, At w b P → At (w.setCell ⟨b, 1, none⟩ (.slice (some ⟨g, off, none⟩) 0 0)) b P) := fun P h => At.put hbk (fun a0 e => by have := At.here h hc1 _ rfl; cases e; exact this)
      clear h hbk hsl H HB HS
      go_enter Tryz.func64, Tryz.ntmps64
      go_wp2_with (go_at_call 106; refine (valid_yes _ _ hc0).mono ?_; rintro e w' ⟨rfl, rfl⟩)
      go_ret
      exact ⟨rfl, hP.out, hK.out, hA.out⟩
    · have hP : Hid (SrcW 166 (w.setCell ⟨b, 1, none⟩ (.slice (some ⟨g, off + 1, none⟩) l.length (c - 1))) b l) := SrcW.put hbk (src_tail h.ok) (Sl.tail hsl) (by decide)
      have hK : Hid (Kept (· = b) w (w.setCell ⟨b, 1, none⟩ (.slice (some ⟨g, off + 1, none⟩) l.length (c - 1)))) := (Kept.refl (· = b) w).put1 1 _
      simp only [List.length_cons] at hc1 hcap
      have hA : Hid (∀ P : Nat → Prop, At w b P → At (w.setCell ⟨b, 1, none⟩ (.slice (some ⟨g, off + 1, none⟩) l.length (c - 1))) b P) := fun P h => At.put hbk (fun a0 e => by have := At.here h hc1 _ rfl; cases e; exact this)
      clear h hbk hsl H HB HS
      go_enter Tryz.func64, Tryz.ntmps64
      go_wp2_with (go_at_call 106; refine (valid_yes _ _ hc0).mono ?_; rintro e w' ⟨rfl, rfl⟩)
      go_ret
      exact ⟨rfl, hP.out, hK.out, hA.out⟩
theorem next_ok (b : Nat) (L : List Int) (w : World) (h : SrcW 166 w b L) : Calls Tryz.prog 64 #[.pointer (some ⟨b, 0, none⟩)] w fun e w' => e = .returned (.int .i64 (L.headD 1)) ∧ SrcW 166 w' b L.tail ∧ Kept (· = b) w w' :=
  (next_at b L w h).mono fun _ _ ⟨h1, h2, h3, _⟩ => ⟨h1, h2, h3⟩
set_option maxHeartbeats 2000000 in
set_option maxRecDepth 100000 in
theorem add_at (s : ByteArray) (b : Nat) (L : List Int) (w : World) (he : Env w) (h : SrcW 166 w b L) (hs : s.size ≤ 140737488351232) : Calls Tryz.prog 83 #[.pointer (some ⟨b, 0, none⟩), .string s] w fun e w' => e = .returned (.int .i64 (aE L s.data.toList)) ∧ SrcW 166 w' b (aL L s.data.toList) ∧ Kept (· = b) w w' ∧ Hid (∀ P : Nat → Prop, (∀ k, w.heap.size ≤ k → P k) → At w b P → At w' b P) := by
  have hc0 := h.cells.choose_spec.choose_spec.1
  have H := Lib.hid h
  have HP := Lib.hid (parse_ok s w he hs)
  have HSZ := Lib.hid (size_data s)
  clear h he
  go_enter Tryz.func83, Tryz.ntmps83
  go_wp2_with fail
  refine (valid_yes _ _ hc0).mono ?_
  rintro e w' ⟨rfl, rfl⟩
  go_wp2_with fail
  refine HP.out.mono ?_
  rintro e w1 ⟨v, rfl, hv, hb1⟩
  obtain ⟨a1, c1, rfl, hv1⟩ := hv.len
  have HV := Lib.hid hv1
  have HB1 := Lib.hid hb1
  have HS1 := Lib.hid (H.out.below hb1)
  by_cases hE : pE s.data.toList = 0
  · have hle := H.out.ok.le
    have hpl := pL_ok hE
    have hnl : (nums s.data.toList).length = s.data.toList.length := nums_length _
    by_cases hm : L.length + s.data.toList.length ≤ 2000
    · have hA := aE_ok hE hm
      have HA := Lib.hid (And.intro hA (aL_ok hA))
      have HL2 : Hid (Src (L ++ nums s.data.toList)) := by
        have := src_add H.out.ok s.data.toList
        rwa [aL_ok hA] at this
      rw [hpl] at HV ⊢
      rw [hE]
      have hm2 : L.length + (nums s.data.toList).length ≤ 2000 := by rw [hnl]; exact hm
      generalize nums s.data.toList = M at *
      obtain ⟨a, c, hd0, hd1, hdf, hdsl, hdbk⟩ := HS1.out.cells
      have HD := Lib.hid hdsl
      have HK := Lib.hid hdbk
      have hbl := hdbk.lt
      clear hv hv1 hb1 hdsl hdbk hc0 hE hA hnl hpl hm
      go_wp2_with fail
      have HC1 : Hid (Bk (w1.alloc (.cells #[.slice a L.length c, .slice a1 M.length c1] 164)) w1.heap.size 164 #[.slice a L.length c, .slice a1 M.length c1]) := Bk.new w1 _ _
      have HBW : Hid (Below w1.heap.size w1 (w1.alloc (.cells #[.slice a L.length c, .slice a1 M.length c1] 164))) := (Below.refl _ w1).alloc (Nat.le_refl _) _
      refine (concat_ok w1.heap.size a a1 L.length M.length c c1 L M _ (HC1.out.cell 0) (HC1.out.cell 1) (HD.out.below HBW.out) (HV.out.below HBW.out) (by omega) (by omega)).mono ?_
      rintro e w2 ⟨u, rfl, hown, hb2⟩
      have hb3 : Below w1.heap.size w1 w2 := bel2 HBW.out hb2
      have hsl := Sl.of_own hown
      obtain ⟨a2, c2, rfl, hsl2⟩ := hsl.len
      have hbk2 := HK.out.below hb3
      have hP : Hid (SrcW 166 (w2.setCell ⟨b, 1, none⟩ (.slice a2 (L ++ M).length c2)) b (L ++ M)) := SrcW.put hbk2 HL2.out hsl2 (by decide)
      have hKK : Hid (Kept (· = b) w (w2.setCell ⟨b, 1, none⟩ (.slice a2 (L ++ M).length c2))) := ((Kept.of_below (bel2 HB1.out hb3)) : Kept (· = b) w w2).put1 1 _
      have hcb : w2.cell? ⟨b, 1, none⟩ = some (.slice a L.length c) := hbk2.cell 1
      have hfb : w2.frozen? ⟨b, 1, none⟩ = false := hbk2.frozen 1
      have hAt : Hid (∀ P : Nat → Prop, (∀ k, w.heap.size ≤ k → P k) → At w b P → At (w2.setCell ⟨b, 1, none⟩ (.slice a2 (L ++ M).length c2)) b P) := fun P hP _ => At.put hbk2 fun a0 ha => hP _ (Nat.le_trans (Nat.le_trans HB1.out.size HBW.out.size) (hown.lt a0.block (by subst ha; rfl)).1)
      clear hown hb3 hsl hsl2 hbk2 hd0 hd1 hdf
      generalize (L ++ M).length = N at *
      go_wp2
      go_ret
      exact ⟨by rw [HA.out.1]; rfl, by rw [HA.out.2]; exact hP.out, hKK.out, hAt.out⟩
    · have hA := aE_many hE (by omega : 2000 < L.length + s.data.toList.length)
      have HA := Lib.hid (And.intro hA (aL_no (L := L) (bs := s.data.toList) (by rw [hA]; decide)))
      rw [hpl] at HV ⊢
      rw [hE]
      have hm2 : 2000 < L.length + (nums s.data.toList).length := by rw [hnl]; omega
      have hml : (nums s.data.toList).length ≤ 2000 := by rw [hnl]; exact (pE_zero hE).1
      generalize nums s.data.toList = M at *
      obtain ⟨a, c, hd0, hd1, hdf, hdsl, hdbk⟩ := HS1.out.cells
      clear hv hv1 hb1 hdsl hdbk hc0 hE hA hnl hpl hm
      go_wp2
      go_ret
      exact ⟨by rw [HA.out.1]; rfl, by rw [HA.out.2]; exact HS1.out, Kept.of_below HB1.out, fun _ _ h => h.below HB1.out⟩
  · have hA := aE_parse (L := L) hE
    have HA := Lib.hid (And.intro hA (aL_no (L := L) (bs := s.data.toList) (by rw [hA]; exact hE)))
    have hne : ((pE s.data.toList : Int) != 0) = true := by simp; omega
    generalize pE s.data.toList = E at *
    clear hv hv1 hb1 hc0 hE hA
    go_wp2
    go_ret
    exact ⟨by rw [HA.out.1]; rfl, by rw [HA.out.2]; exact HS1.out, Kept.of_below HB1.out, fun _ _ h => h.below HB1.out⟩
theorem add_ok (s : ByteArray) (b : Nat) (L : List Int) (w : World) (he : Env w) (h : SrcW 166 w b L) (hs : s.size ≤ 140737488351232) : Calls Tryz.prog 83 #[.pointer (some ⟨b, 0, none⟩), .string s] w fun e w' => e = .returned (.int .i64 (aE L s.data.toList)) ∧ SrcW 166 w' b (aL L s.data.toList) ∧ Kept (· = b) w w' :=
  (add_at s b L w he h hs).mono fun _ _ ⟨h1, h2, h3, _⟩ => ⟨h1, h2, h3⟩
set_option maxHeartbeats 1000000 in
set_option maxRecDepth 100000 in
theorem copy_ok (b : Nat) (L : List Int) (w : World) (h : SrcW 166 w b L) : Calls Tryz.prog 85 #[.pointer (some ⟨b, 0, none⟩)] w fun e w' => ∃ b', w.heap.size ≤ b' ∧ e = .returned (.pointer (some ⟨b', 0, none⟩)) ∧ SrcW 166 w' b' L ∧ Below w.heap.size w w' := by
  obtain ⟨a, c, hc0, hc1, hf, hsl, hbk⟩ := h.cells
  have hle := h.ok.le
  have H := Lib.hid h
  have HS := Lib.hid hsl
  clear h hsl hbk
  go_enter Tryz.func85, Tryz.ntmps85
  go_wp2_with fail
  refine (valid_yes _ _ hc0).mono ?_
  rintro e w' ⟨rfl, rfl⟩
  go_wp2_with fail
  refine (clone_ok a L.length c L _ HS.out (by omega)).mono ?_
  rintro e w1 ⟨u, rfl, hown, hb1⟩
  have hsl1 := Sl.of_own hown
  obtain ⟨a1, c1, rfl, hsl2⟩ := hsl1.len
  have HB1 := Lib.hid hb1
  have HV := Lib.hid hsl2
  clear hown hb1 hsl1 hsl2 hc0 hc1 hf
  go_wp2
  go_ret
  exact ⟨_, HB1.out.size, rfl, ⟨H.out.ok, a1, c1, Bk.new _ _ _, HV.out.below ((Below.refl _ _).alloc (Nat.le_refl _) _)⟩, HB1.out.alloc HB1.out.size _⟩
end Go.Proofs.YtpinmiplefidpaaGreatDoor.AN

namespace Go.Proofs.YtpinmiplefidpaaGreatDoor.AN
open Go.RowKit

set_option maxRecDepth 100000 in
set_option maxHeartbeats 4000000 in
theorem peekc_sa (b N c : Nat) (n : Int) (a : Addr) (_ : c ≤ 9223372036854775807) (h2 : ((N : Int) < n) = False) (h3 : (0 < n) = False) (w : World) (R : Ending → World → Prop) (hc0 : w.cell? ⟨b, 0, none⟩ = some (.bool true)) (hc1 : w.cell? ⟨b, 1, none⟩ = some (.slice (some a) N c))
    (HCL : Hid (∀ W : World, W.heap = w.heap → W.os = w.os → W.tape = w.tape → W.output = w.output → Calls Tryz.prog 129 #[.slice (some a) 0 c] W fun e w' => ∃ v, e = .returned v ∧ R e w' ∧ w'.cell? ⟨b, 1, none⟩ = some (.slice (some a) N c))) :
    Calls Tryz.prog 111 #[.pointer (some ⟨b, 0, none⟩), .int .i64 n] w R := by
  go_enter Tryz.func111, Tryz.ntmps111
  go_wp2_with (go_at_call 106; refine (valid_yes _ _ hc0).mono ?_; rintro e w' ⟨rfl, rfl⟩)
  clear hc0
  go_region_held3 (fun W => W.cell? ⟨b, 1, none⟩ = some (.slice (some a) N c)) (first | exact hc1 | exact hz1)
    (first | (go_at_call 129; refine (HCL.out _ (by rfl) (by rfl) (by rfl) (by rfl)).mono ?_; rintro e w1 ⟨v, rfl, h3, hz1⟩; have HV := Lib.hid h3; clear h3))
  all_goals
    go_wp2
    exact HV.out
set_option maxRecDepth 100000 in
set_option maxHeartbeats 4000000 in
theorem peekc_sb (b c : Nat) (a : Addr) (_ : c ≤ 9223372036854775807)  (w : World) (R : Ending → World → Prop) (hc0 : w.cell? ⟨b, 0, none⟩ = some (.bool true)) (hc1 : w.cell? ⟨b, 1, none⟩ = some (.slice (some a) 0 c))
    (HCL : Hid (∀ W : World, W.heap = w.heap → W.os = w.os → W.tape = w.tape → W.output = w.output → Calls Tryz.prog 129 #[.slice (some a) 0 c] W fun e w' => ∃ v, e = .returned v ∧ R e w' ∧ w'.cell? ⟨b, 1, none⟩ = some (.slice (some a) 0 c))) :
    Calls Tryz.prog 111 #[.pointer (some ⟨b, 0, none⟩), .int .i64 0] w R := by
  go_enter Tryz.func111, Tryz.ntmps111
  go_wp2_with (go_at_call 106; refine (valid_yes _ _ hc0).mono ?_; rintro e w' ⟨rfl, rfl⟩)
  clear hc0
  go_region_held3 (fun W => W.cell? ⟨b, 1, none⟩ = some (.slice (some a) 0 c)) (first | exact hc1 | exact hz1)
    (first | (go_at_call 129; refine (HCL.out _ (by rfl) (by rfl) (by rfl) (by rfl)).mono ?_; rintro e w1 ⟨v, rfl, h3, hz1⟩; have HV := Lib.hid h3; clear h3))
  all_goals
    go_wp2
    exact HV.out
set_option maxRecDepth 100000 in
set_option maxHeartbeats 4000000 in
theorem peekc_sd (b N c : Nat) (a : Addr) (_ : c ≤ 9223372036854775807) (h1 : ((N : Int) < 0) = False) (w : World) (R : Ending → World → Prop) (hc0 : w.cell? ⟨b, 0, none⟩ = some (.bool true)) (hc1 : w.cell? ⟨b, 1, none⟩ = some (.slice (some a) N c))
    (HCL : Hid (∀ W : World, W.heap = w.heap → W.os = w.os → W.tape = w.tape → W.output = w.output → Calls Tryz.prog 129 #[.slice (some a) 0 c] W fun e w' => ∃ v, e = .returned v ∧ R e w' ∧ w'.cell? ⟨b, 1, none⟩ = some (.slice (some a) N c))) :
    Calls Tryz.prog 111 #[.pointer (some ⟨b, 0, none⟩), .int .i64 0] w R := by
  go_enter Tryz.func111, Tryz.ntmps111
  go_wp2_with (go_at_call 106; refine (valid_yes _ _ hc0).mono ?_; rintro e w' ⟨rfl, rfl⟩)
  clear hc0
  go_region_held3 (fun W => W.cell? ⟨b, 1, none⟩ = some (.slice (some a) N c)) (first | exact hc1 | exact hz1)
    (first | (go_at_call 129; refine (HCL.out _ (by rfl) (by rfl) (by rfl) (by rfl)).mono ?_; rintro e w1 ⟨v, rfl, h3, hz1⟩; have HV := Lib.hid h3; clear h3))
  all_goals
    go_wp2
    exact HV.out
set_option maxRecDepth 100000 in
set_option maxHeartbeats 4000000 in
theorem peekc_sc (b N n c : Nat) (a : Addr) (_ : c ≤ 9223372036854775807) (h1 : 0 < n) (h2 : ¬ N < n) (h3 : n ≤ c) (w : World) (R : Ending → World → Prop) (hc0 : w.cell? ⟨b, 0, none⟩ = some (.bool true)) (hc1 : w.cell? ⟨b, 1, none⟩ = some (.slice (some a) N c))
    (HCL : Hid (∀ W : World, W.heap = w.heap → W.os = w.os → W.tape = w.tape → W.output = w.output → Calls Tryz.prog 129 #[.slice (some a) n c] W fun e w' => ∃ v, e = .returned v ∧ R e w' ∧ w'.cell? ⟨b, 1, none⟩ = some (.slice (some a) N c))) :
    Calls Tryz.prog 111 #[.pointer (some ⟨b, 0, none⟩), .int .i64 n] w R := by
  go_enter Tryz.func111, Tryz.ntmps111
  go_wp2_with (go_at_call 106; refine (valid_yes _ _ hc0).mono ?_; rintro e w' ⟨rfl, rfl⟩)
  clear hc0
  go_region_held3 (fun W => W.cell? ⟨b, 1, none⟩ = some (.slice (some a) N c)) (first | exact hc1 | exact hz1)
    (first | (go_at_call 129; refine (HCL.out _ (by rfl) (by rfl) (by rfl) (by rfl)).mono ?_; rintro e w1 ⟨v, rfl, h3, hz1⟩; have HV := Lib.hid h3; clear h3))
  all_goals
    go_wp2
    exact HV.out
set_option maxRecDepth 100000 in
set_option maxHeartbeats 4000000 in
theorem peekc_se (b N c : Nat) (a : Addr) (_ : c ≤ 9223372036854775807) (hN : N ≤ c) (h1 : 0 < N) (w : World) (R : Ending → World → Prop) (hc0 : w.cell? ⟨b, 0, none⟩ = some (.bool true)) (hc1 : w.cell? ⟨b, 1, none⟩ = some (.slice (some a) N c))
    (HCL : Hid (∀ W : World, W.heap = w.heap → W.os = w.os → W.tape = w.tape → W.output = w.output → Calls Tryz.prog 129 #[.slice (some a) N c] W fun e w' => ∃ v, e = .returned v ∧ R e w' ∧ w'.cell? ⟨b, 1, none⟩ = some (.slice (some a) N c))) :
    Calls Tryz.prog 111 #[.pointer (some ⟨b, 0, none⟩), .int .i64 N] w R := by
  go_enter Tryz.func111, Tryz.ntmps111
  go_wp2_with (go_at_call 106; refine (valid_yes _ _ hc0).mono ?_; rintro e w' ⟨rfl, rfl⟩)
  clear hc0
  go_region_held3 (fun W => W.cell? ⟨b, 1, none⟩ = some (.slice (some a) N c)) (first | exact hc1 | exact hz1)
    (first | (go_at_call 129; refine (HCL.out _ (by rfl) (by rfl) (by rfl) (by rfl)).mono ?_; rintro e w1 ⟨v, rfl, h3, hz1⟩; have HV := Lib.hid h3; clear h3))
  all_goals
    go_wp2
    exact HV.out
end Go.Proofs.YtpinmiplefidpaaGreatDoor.AN

namespace Go.Proofs.YtpinmiplefidpaaGreatDoor.AN
open Go.RowKit

set_option maxRecDepth 100000 in
set_option maxHeartbeats 4000000 in
theorem peekc_sf (b N c : Nat) (n : Int) (a : Addr) (_ : c ≤ 9223372036854775807) (hN : N ≤ c) (h1 : (N : Int) < n) (h2 : 0 < N) (w : World) (R : Ending → World → Prop) (hc0 : w.cell? ⟨b, 0, none⟩ = some (.bool true)) (hc1 : w.cell? ⟨b, 1, none⟩ = some (.slice (some a) N c))
    (HCL : Hid (∀ W : World, W.heap = w.heap → W.os = w.os → W.tape = w.tape → W.output = w.output → Calls Tryz.prog 129 #[.slice (some a) N c] W fun e w' => ∃ v, e = .returned v ∧ R e w' ∧ w'.cell? ⟨b, 1, none⟩ = some (.slice (some a) N c))) :
    Calls Tryz.prog 111 #[.pointer (some ⟨b, 0, none⟩), .int .i64 n] w R := by
  go_enter Tryz.func111, Tryz.ntmps111
  go_wp2_with (go_at_call 106; refine (valid_yes _ _ hc0).mono ?_; rintro e w' ⟨rfl, rfl⟩)
  clear hc0
  go_region_held3 (fun W => W.cell? ⟨b, 1, none⟩ = some (.slice (some a) N c)) (first | exact hc1 | exact hz1)
    (first | (go_at_call 129; refine (HCL.out _ (by rfl) (by rfl) (by rfl) (by rfl)).mono ?_; rintro e w1 ⟨v, rfl, h3, hz1⟩; have HV := Lib.hid h3; clear h3))
  all_goals
    go_wp2
    exact HV.out
set_option maxRecDepth 100000 in
set_option maxHeartbeats 4000000 in
theorem peekc_sg (b c : Nat) (n : Int) (a : Addr) (_ : c ≤ 9223372036854775807) (h1 : 0 < n) (w : World) (R : Ending → World → Prop) (hc0 : w.cell? ⟨b, 0, none⟩ = some (.bool true)) (hc1 : w.cell? ⟨b, 1, none⟩ = some (.slice (some a) 0 c))
    (HCL : Hid (∀ W : World, W.heap = w.heap → W.os = w.os → W.tape = w.tape → W.output = w.output → Calls Tryz.prog 129 #[.slice (some a) 0 c] W fun e w' => ∃ v, e = .returned v ∧ R e w' ∧ w'.cell? ⟨b, 1, none⟩ = some (.slice (some a) 0 c))) :
    Calls Tryz.prog 111 #[.pointer (some ⟨b, 0, none⟩), .int .i64 n] w R := by
  go_enter Tryz.func111, Tryz.ntmps111
  go_wp2_with (go_at_call 106; refine (valid_yes _ _ hc0).mono ?_; rintro e w' ⟨rfl, rfl⟩)
  clear hc0
  go_region_held3 (fun W => W.cell? ⟨b, 1, none⟩ = some (.slice (some a) 0 c)) (first | exact hc1 | exact hz1)
    (first | (go_at_call 129; refine (HCL.out _ (by rfl) (by rfl) (by rfl) (by rfl)).mono ?_; rintro e w1 ⟨v, rfl, h3, hz1⟩; have HV := Lib.hid h3; clear h3))
  all_goals
    go_wp2
    exact HV.out
set_option maxRecDepth 100000 in
set_option maxHeartbeats 4000000 in
theorem peekc_na (b : Nat) (n : Int) (h2 : (0 < n) = False) (w : World) (R : Ending → World → Prop) (hc0 : w.cell? ⟨b, 0, none⟩ = some (.bool true)) (hc1 : w.cell? ⟨b, 1, none⟩ = some (.slice none 0 0))
    (HCL : Hid (∀ W : World, W.heap = w.heap → W.os = w.os → W.tape = w.tape → W.output = w.output → Calls Tryz.prog 129 #[.slice none 0 0] W fun e w' => ∃ v, e = .returned v ∧ R e w' ∧ w'.cell? ⟨b, 1, none⟩ = some (.slice none 0 0))) :
    Calls Tryz.prog 111 #[.pointer (some ⟨b, 0, none⟩), .int .i64 n] w R := by
  go_enter Tryz.func111, Tryz.ntmps111
  go_wp2_with (go_at_call 106; refine (valid_yes _ _ hc0).mono ?_; rintro e w' ⟨rfl, rfl⟩)
  clear hc0
  go_region_held3 (fun W => W.cell? ⟨b, 1, none⟩ = some (.slice none 0 0)) (first | exact hc1 | exact hz1)
    (first | (go_at_call 129; refine (HCL.out _ (by rfl) (by rfl) (by rfl) (by rfl)).mono ?_; rintro e w1 ⟨v, rfl, h3, hz1⟩; have HV := Lib.hid h3; clear h3))
  all_goals
    go_wp2
    exact HV.out
set_option maxRecDepth 100000 in
set_option maxHeartbeats 4000000 in
theorem peekc_nb (b : Nat)  (w : World) (R : Ending → World → Prop) (hc0 : w.cell? ⟨b, 0, none⟩ = some (.bool true)) (hc1 : w.cell? ⟨b, 1, none⟩ = some (.slice none 0 0))
    (HCL : Hid (∀ W : World, W.heap = w.heap → W.os = w.os → W.tape = w.tape → W.output = w.output → Calls Tryz.prog 129 #[.slice none 0 0] W fun e w' => ∃ v, e = .returned v ∧ R e w' ∧ w'.cell? ⟨b, 1, none⟩ = some (.slice none 0 0))) :
    Calls Tryz.prog 111 #[.pointer (some ⟨b, 0, none⟩), .int .i64 0] w R := by
  go_enter Tryz.func111, Tryz.ntmps111
  go_wp2_with (go_at_call 106; refine (valid_yes _ _ hc0).mono ?_; rintro e w' ⟨rfl, rfl⟩)
  clear hc0
  go_region_held3 (fun W => W.cell? ⟨b, 1, none⟩ = some (.slice none 0 0)) (first | exact hc1 | exact hz1)
    (first | (go_at_call 129; refine (HCL.out _ (by rfl) (by rfl) (by rfl) (by rfl)).mono ?_; rintro e w1 ⟨v, rfl, h3, hz1⟩; have HV := Lib.hid h3; clear h3))
  all_goals
    go_wp2
    exact HV.out
set_option maxRecDepth 100000 in
set_option maxHeartbeats 4000000 in
theorem peekc_ng (b : Nat) (n : Int) (h1 : 0 < n) (w : World) (R : Ending → World → Prop) (hc0 : w.cell? ⟨b, 0, none⟩ = some (.bool true)) (hc1 : w.cell? ⟨b, 1, none⟩ = some (.slice none 0 0))
    (HCL : Hid (∀ W : World, W.heap = w.heap → W.os = w.os → W.tape = w.tape → W.output = w.output → Calls Tryz.prog 129 #[.slice none 0 0] W fun e w' => ∃ v, e = .returned v ∧ R e w' ∧ w'.cell? ⟨b, 1, none⟩ = some (.slice none 0 0))) :
    Calls Tryz.prog 111 #[.pointer (some ⟨b, 0, none⟩), .int .i64 n] w R := by
  go_enter Tryz.func111, Tryz.ntmps111
  go_wp2_with (go_at_call 106; refine (valid_yes _ _ hc0).mono ?_; rintro e w' ⟨rfl, rfl⟩)
  clear hc0
  go_region_held3 (fun W => W.cell? ⟨b, 1, none⟩ = some (.slice none 0 0)) (first | exact hc1 | exact hz1)
    (first | (go_at_call 129; refine (HCL.out _ (by rfl) (by rfl) (by rfl) (by rfl)).mono ?_; rintro e w1 ⟨v, rfl, h3, hz1⟩; have HV := Lib.hid h3; clear h3))
  all_goals
    go_wp2
    exact HV.out

theorem peek_ok (b : Nat) (n : Int) (L : List Int) (w : World) (h : SrcW 166 w b L) : Calls Tryz.prog 111 #[.pointer (some ⟨b, 0, none⟩), .int .i64 n] w (NewV (L.take n.toNat) w) := by
  obtain ⟨a, c, hc0, hc1, _, hsl, hbk⟩ := h.cells
  have hle := h.ok.le
  obtain ⟨_, hcap, hcm, hnil⟩ := hsl.cap
  unfold maxLen at hcm
  have hbl := hbk.lt
  have key : ∀ k, k ≤ L.length → Hid (∀ W : World, W.heap = w.heap → W.os = w.os → W.tape = w.tape → W.output = w.output → Calls Tryz.prog 129 #[.slice a k c] W fun e w' => ∃ v, e = .returned v ∧ NewV (L.take k) w e w' ∧ w'.cell? ⟨b, 1, none⟩ = some (.slice a L.length c)) := fun k hk W e1 e2 e3 e4 =>
    (clone_ok a k c (L.take k) W ((hsl.take hk).same fun g _ _ => by rw [e1]) (by rw [List.length_take]; omega)).mono fun e w' ⟨v, h3, h4, h5⟩ => by
      rw [e1] at h4
      have hb : Below w.heap.size w w' := ⟨h5.os.trans e2, h5.tape.trans e3, h5.output.trans e4, by rw [← e1]; exact h5.size, fun j hj => by rw [h5.block j (by rw [e1]; exact hj), e1]⟩
      exact ⟨v, h3, ⟨v, h3, h4, hb⟩, (hb.cell (p := ⟨b, 1, none⟩) hbl).trans hc1⟩
  have e0 : n ≤ 0 → n.toNat = 0 := fun h => by omega
  have e1 : (L.length : Int) ≤ n → L.take n.toNat = L.take L.length := fun h => by rw [List.take_length, List.take_of_length_le (by omega)]
  cases a with
  | none =>
    have hc := hnil rfl
    subst hc
    have hl : L.length = 0 := by omega
    rw [hl] at hc1 key
    have k0 := key 0 (Nat.zero_le _)
    have e2 : L.take n.toNat = L.take 0 := by rw [List.eq_nil_of_length_eq_zero hl]; simp
    rw [e2]
    by_cases h1 : n < 0
    · exact peekc_na b n (by simp; omega) w _ hc0 hc1 k0
    by_cases h2 : n = 0
    · subst h2; exact peekc_nb b w _ hc0 hc1 k0
    · exact peekc_ng b n (by omega) w _ hc0 hc1 k0
  | some a =>
    have k0 := key 0 (Nat.zero_le _)
    by_cases h1 : n < 0
    · rw [e0 (by omega)]
      exact peekc_sa b L.length c n a (by omega) (by simp; omega) (by simp; omega) w _ hc0 hc1 k0
    by_cases hl : L.length = 0
    · have e2 : L.take n.toNat = L.take 0 := by rw [List.eq_nil_of_length_eq_zero hl]; simp
      rw [e2]
      rw [hl] at hc1 k0
      by_cases h2 : n = 0
      · subst h2; exact peekc_sb b c a (by omega) w _ hc0 hc1 k0
      · exact peekc_sg b c n a (by omega) (by omega) w _ hc0 hc1 k0
    by_cases h2 : n = 0
    · subst h2
      exact peekc_sd b L.length c a (by omega) (by simp) w _ hc0 hc1 k0
    by_cases h3 : (L.length : Int) < n
    · rw [e1 (by omega)]
      exact peekc_sf b L.length c n a (by omega) hcap h3 (by omega) w _ hc0 hc1 (key _ (Nat.le_refl _))
    obtain ⟨m, rfl⟩ : ∃ m : Nat, n = (m : Int) := ⟨n.toNat, by omega⟩
    rw [Int.toNat_natCast]
    by_cases h4 : m < L.length
    · exact peekc_sc b L.length m c a (by omega) (by omega) (by omega) (by omega) w _ hc0 hc1 (key _ (Nat.le_of_lt h4))
    · obtain rfl : m = L.length := by omega
      exact peekc_se b L.length c a (by omega) hcap (by omega) w _ hc0 hc1 (key _ (Nat.le_refl _))
end Go.Proofs.YtpinmiplefidpaaGreatDoor.AN
