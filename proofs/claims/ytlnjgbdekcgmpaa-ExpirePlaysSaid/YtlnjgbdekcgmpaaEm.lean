/- Mathematics of queues: ids with their times, in the order of times and of ids. Nothing of the program. -/
import Derived.WalkKit
namespace Go.Proofs.Ytlnjgbdekcgmpaa

/-- An id and its time. -/
abbrev En := Int × Int
def lt (a b : En) : Bool := decide (a.2 < b.2) || (decide (a.2 = b.2) && decide (a.1 < b.1))
theorem lt_iff {a b : En} : lt a b = true ↔ a.2 < b.2 ∨ (a.2 = b.2 ∧ a.1 < b.1) := by simp [lt]
theorem lt_irrefl (a : En) : ¬ lt a a = true := by rw [lt_iff]; omega
theorem lt_trans {a b c : En} (h : lt a b = true) (k : lt b c = true) : lt a c = true := by rw [lt_iff] at *; omega
theorem lt_asymm {a b : En} (h : lt a b = true) : ¬ lt b a = true := by rw [lt_iff] at *; omega
theorem lt_total {a b : En} (h : a.1 ≠ b.1) : lt a b = true ∨ lt b a = true := by rw [lt_iff, lt_iff]; omega

def Srt (L : List En) : Prop := L.Pairwise fun a b => lt a b = true
def ids (L : List En) : List Int := L.map Prod.fst
def Nod (L : List En) : Prop := L.Pairwise fun a b => a.1 ≠ b.1
def del (L : List En) (id : Int) : List En := L.filter fun e => e.1 != id
def pos (L : List En) (x : En) : Nat := L.countP fun e => lt e x
def ins (L : List En) (x : En) : List En := L.filter (fun e => lt e x) ++ x :: L.filter fun e => !lt e x
def set (L : List En) (id t : Int) : List En := ins (del L id) (id, t)
def due (L : List En) (now : Int) : List En := L.filter fun e => decide (e.2 ≤ now)
def rest (L : List En) (now : Int) : List En := L.filter fun e => !decide (e.2 ≤ now)

theorem ids_length (L : List En) : (ids L).length = L.length := by simp [ids]
theorem mem_ids {L : List En} {i : Int} : i ∈ ids L ↔ ∃ t, (i, t) ∈ L := by
  unfold ids
  rw [List.mem_map]
  constructor
  · rintro ⟨⟨a, b⟩, h, rfl⟩; exact ⟨b, h⟩
  · rintro ⟨t, h⟩; exact ⟨(i, t), h, rfl⟩
theorem ids_append (L M : List En) : ids (L ++ M) = ids L ++ ids M := by simp [ids]

/-- In a list that is in order: what is before a bound stands ahead of what is not. -/
theorem split_of {p : En → Bool} : ∀ {L : List En}, L.Pairwise (fun a b => p b = true → p a = true) → L.filter p = L.take (L.countP p) ∧ L.filter (fun e => !p e) = L.drop (L.countP p)
  | [], _ => by simp
  | a :: L, h => by
    obtain ⟨h1, h2⟩ := List.pairwise_cons.1 h
    obtain ⟨i1, i2⟩ := split_of h2
    by_cases ha : p a = true
    · rw [List.countP_cons_of_pos ha, List.filter_cons_of_pos ha, List.take_succ_cons, List.drop_succ_cons, List.filter_cons_of_neg (by simp [ha]), i1, i2]
      exact ⟨rfl, rfl⟩
    · have h0 : L.countP p = 0 := List.countP_eq_zero.2 fun b hb hp => ha (h1 b hb hp)
      rw [List.countP_cons_of_neg ha, h0]
      rw [h0] at i1 i2
      simp at i1 i2
      refine ⟨?_, ?_⟩
      · simp [List.filter_cons_of_neg ha, List.filter_eq_nil_iff]; exact fun a b hb => by simpa using i1 a b hb
      · simp [ha]; exact fun a b hb => by simpa using i1 a b hb
theorem Srt.pre {L : List En} (h : Srt L) (x : En) : L.Pairwise (fun a b => lt b x = true → lt a x = true) := h.imp fun hab hb => lt_trans hab hb
theorem Srt.pre_due {L : List En} (h : Srt L) (now : Int) : L.Pairwise (fun a b => decide (b.2 ≤ now) = true → decide (a.2 ≤ now) = true) := h.imp fun hab hb => by
  rw [lt_iff] at hab; simp at *; omega
theorem ins_eq {L : List En} (h : Srt L) (x : En) : ins L x = L.take (pos L x) ++ x :: L.drop (pos L x) := by
  obtain ⟨h1, h2⟩ := split_of (h.pre x)
  unfold ins pos; rw [h1, h2]
theorem pos_le (L : List En) (x : En) : pos L x ≤ L.length := List.countP_le_length
theorem len_split (p : En → Bool) : ∀ L : List En, (L.filter p).length + (L.filter fun e => !p e).length = L.length
  | [] => rfl
  | a :: L => by
    have := len_split p L
    by_cases h : p a = true
    · rw [List.filter_cons_of_pos h, List.filter_cons_of_neg (by simp [h])]; simp only [List.length_cons]; omega
    · rw [List.filter_cons_of_neg h, List.filter_cons_of_pos (by simpa using h)]; simp only [List.length_cons]; omega
theorem ins_length (L : List En) (x : En) : (ins L x).length = L.length + 1 := by
  have := len_split (fun e => lt e x) L
  unfold ins
  rw [List.length_append, List.length_cons]; omega
theorem mem_ins {L : List En} {x e : En} : e ∈ ins L x ↔ e = x ∨ e ∈ L := by
  unfold ins
  simp only [List.mem_append, List.mem_cons, List.mem_filter]
  by_cases h : lt e x = true
  · simp [h]; constructor <;> (rintro (h | h) <;> simp_all)
  · simp [h]
theorem Srt.ins {L : List En} (h : Srt L) {x : En} (hx : ∀ e ∈ L, e.1 ≠ x.1) : Srt (ins L x) := by
  unfold Srt Go.Proofs.Ytlnjgbdekcgmpaa.ins
  rw [List.pairwise_append]
  refine ⟨h.filter _, List.pairwise_cons.2 ⟨fun e he => ?_, h.filter _⟩, fun a ha b hb => ?_⟩
  · obtain ⟨h1, h2⟩ := List.mem_filter.1 he
    rcases lt_total (hx e h1) with k | k
    · simp [k] at h2
    · exact k
  · obtain ⟨h1, h2⟩ := List.mem_filter.1 ha
    rcases List.mem_cons.1 hb with rfl | hb
    · exact h2
    · obtain ⟨h3, h4⟩ := List.mem_filter.1 hb
      rcases lt_total (hx b h3) with k | k
      · simp [k] at h4
      · exact lt_trans h2 k
theorem Srt.del {L : List En} (h : Srt L) (id : Int) : Srt (del L id) := h.filter _
theorem Srt.rest {L : List En} (h : Srt L) (now : Int) : Srt (rest L now) := h.filter _
theorem Nod.del {L : List En} (h : Nod L) (id : Int) : Nod (del L id) := h.filter _
theorem Nod.rest {L : List En} (h : Nod L) (now : Int) : Nod (rest L now) := h.filter _
theorem Nod.uniq : ∀ {L : List En}, Nod L → ∀ {i s t : Int}, (i, s) ∈ L → (i, t) ∈ L → s = t
  | [], _, _, _, _, h, _ => by cases h
  | a :: L, h, i, s, t, h1, h2 => by
    obtain ⟨k1, k2⟩ := List.pairwise_cons.1 h
    rcases List.mem_cons.1 h1 with e1 | g1
    · rcases List.mem_cons.1 h2 with e2 | g2
      · exact congrArg Prod.snd (e1.trans e2.symm)
      · exact absurd (show a.1 = i from (congrArg Prod.fst e1).symm) (k1 _ g2)
    · rcases List.mem_cons.1 h2 with e2 | g2
      · exact absurd (show a.1 = i from (congrArg Prod.fst e2).symm) (k1 _ g1)
      · exact Nod.uniq k2 g1 g2
theorem Nod.ins {L : List En} (h : Nod L) {x : En} (hx : ∀ e ∈ L, e.1 ≠ x.1) : Nod (ins L x) := by
  unfold Nod Go.Proofs.Ytlnjgbdekcgmpaa.ins
  rw [List.pairwise_append]
  have hd : Nod L := h
  refine ⟨h.filter _, List.pairwise_cons.2 ⟨fun e he => (hx e (List.mem_filter.1 he).1).symm, h.filter _⟩, fun a ha b hb => ?_⟩
  obtain ⟨h1, h2⟩ := List.mem_filter.1 ha
  rcases List.mem_cons.1 hb with rfl | hb
  · exact hx a h1
  · obtain ⟨h3, h4⟩ := List.mem_filter.1 hb
    intro e
    obtain ⟨i, s⟩ := a
    obtain ⟨j, t⟩ := b
    obtain rfl : i = j := e
    obtain rfl := hd.uniq h1 h3
    simp [h2] at h4
theorem mem_del {L : List En} {i : Int} {e : En} : e ∈ del L i ↔ e ∈ L ∧ e.1 ≠ i := by simp [del]
theorem del_self {L : List En} {i : Int} (h : i ∉ ids L) : del L i = L := by
  unfold del
  rw [List.filter_eq_self]
  intro e he
  have : e.1 ≠ i := by rintro rfl; exact h (mem_ids.2 ⟨e.2, he⟩)
  simpa using this
theorem Srt.set {L : List En} (h : Srt L) (i t : Int) : Srt (set L i t) := (h.del i).ins fun _ he => (mem_del.1 he).2
theorem Nod.set {L : List En} (h : Nod L) (i t : Int) : Nod (set L i t) := (h.del i).ins fun _ he => (mem_del.1 he).2
theorem mem_set {L : List En} {i t : Int} {e : En} : e ∈ set L i t ↔ e = (i, t) ∨ e ∈ L ∧ e.1 ≠ i := by unfold set; rw [mem_ins, mem_del]
theorem not_mem_del (L : List En) (i : Int) : i ∉ ids (del L i) := by
  rw [mem_ids]; rintro ⟨t, h⟩; exact (mem_del.1 h).2 rfl

/-- An id that is there stands at its place. -/
theorem at_pos {L : List En} (h : Srt L) {x : En} (hx : x ∈ L) : L[pos L x]? = some x ∧ del L x.1 = L.take (pos L x) ++ L.drop (pos L x + 1) ∨ ¬ Nod L := by
  by_cases hn : Nod L
  · refine .inl ?_
    obtain ⟨A, B, rfl⟩ := List.append_of_mem hx
    have hA : ∀ a ∈ A, lt a x = true := fun a ha => (List.pairwise_append.1 h).2.2 a ha x (by simp)
    have hB : ∀ b ∈ B, lt x b = true := fun b hb => (List.pairwise_cons.1 (List.pairwise_append.1 h).2.1).1 b hb
    have hp : pos (A ++ x :: B) x = A.length := by
      unfold pos
      rw [List.countP_append, List.countP_eq_length.2 hA, List.countP_cons_of_neg (p := fun e => lt e x) (lt_irrefl x), List.countP_eq_zero.2 (fun b hb => lt_asymm (hB b hb))]
      rfl
    have nA : ∀ a ∈ A, a.1 ≠ x.1 := fun a ha => (List.pairwise_append.1 hn).2.2 a ha x (by simp)
    have nB : ∀ b ∈ B, b.1 ≠ x.1 := fun b hb => ((List.pairwise_cons.1 (List.pairwise_append.1 hn).2.1).1 b hb).symm
    rw [hp]
    refine ⟨by simp, ?_⟩
    have e1 : del (A ++ x :: B) x.1 = A ++ B := by
      unfold del
      rw [List.filter_append, List.filter_cons_of_neg (by simp), List.filter_eq_self.2 (by simpa using nA), List.filter_eq_self.2 (by simpa using nB)]
    rw [e1, List.take_left' rfl, ← List.drop_drop, List.drop_left' rfl]
    rfl
  · exact .inr hn
theorem place_at {L : List En} (h : Srt L) (hn : Nod L) {x : En} (hx : x ∈ L) : L[pos L x]? = some x := by
  rcases at_pos h hx with h | h
  · exact h.1
  · exact absurd hn h
theorem place_del {L : List En} (h : Srt L) (hn : Nod L) {x : En} (hx : x ∈ L) : del L x.1 = L.take (pos L x) ++ L.drop (pos L x + 1) := by
  rcases at_pos h hx with h | h
  · exact h.2
  · exact absurd hn h
theorem del_length {L : List En} (h : Srt L) (hn : Nod L) {x : En} (hx : x ∈ L) : (del L x.1).length + 1 = L.length := by
  have h1 := place_at h hn hx
  have h2 : pos L x < L.length := (List.getElem?_eq_some_iff.1 h1).1
  rw [place_del h hn hx]
  simp; omega
theorem del_le (L : List En) (i : Int) : (del L i).length ≤ L.length := List.length_filter_le _ _
theorem set_length_new {L : List En} {i : Int} (t : Int) (h : i ∉ ids L) : (set L i t).length = L.length + 1 := by unfold set; rw [ins_length, del_self h]
theorem set_length_old {L : List En} (h : Srt L) (hn : Nod L) {i s : Int} (t : Int) (hi : (i, s) ∈ L) : (set L i t).length = L.length := by unfold set; rw [ins_length]; exact del_length h hn hi

theorem due_eq {L : List En} (h : Srt L) (now : Int) : due L now = L.take (due L now).length ∧ rest L now = L.drop (due L now).length := by
  obtain ⟨h1, h2⟩ := split_of (h.pre_due now)
  have : (due L now).length = L.countP fun e => decide (e.2 ≤ now) := by unfold due; rw [List.countP_eq_length_filter]
  rw [this]
  exact ⟨h1, h2⟩
theorem due_append {L : List En} (h : Srt L) (now : Int) : due L now ++ rest L now = L := by
  obtain ⟨h1, h2⟩ := due_eq h now
  calc due L now ++ rest L now = L.take (due L now).length ++ L.drop (due L now).length := by rw [← h1, ← h2]
    _ = L := List.take_append_drop _ _
theorem mem_due {L : List En} {now : Int} {e : En} : e ∈ due L now ↔ e ∈ L ∧ e.2 ≤ now := by simp [due]
theorem mem_rest {L : List En} {now : Int} {e : En} : e ∈ rest L now ↔ e ∈ L ∧ now < e.2 := by simp [rest]

/-- Two queues with the same entries are the same. -/
theorem srt_ext : ∀ {L M : List En}, Srt L → Srt M → (∀ e, e ∈ L ↔ e ∈ M) → L = M
  | [], [], _, _, _ => rfl
  | [], b :: M, _, _, h => by have := (h b).2 (by simp); cases this
  | a :: L, [], _, _, h => by have := (h a).1 (by simp); cases this
  | a :: L, b :: M, hL, hM, h => by
    obtain ⟨h1, h2⟩ := List.pairwise_cons.1 hL
    obtain ⟨h3, h4⟩ := List.pairwise_cons.1 hM
    have e : a = b := by
      rcases List.mem_cons.1 ((h a).1 (by simp)) with e | e
      · exact e
      · rcases List.mem_cons.1 ((h b).2 (by simp)) with k | k
        · exact k.symm
        · exact absurd (h1 b k) (lt_asymm (h3 a e))
    subst e
    congr 1
    refine srt_ext h2 h4 fun e => ⟨fun he => ?_, fun he => ?_⟩
    · rcases List.mem_cons.1 ((h e).1 (by simp [he])) with rfl | k
      · exact absurd (h1 _ he) (lt_irrefl _)
      · exact k
    · rcases List.mem_cons.1 ((h e).2 (by simp [he])) with rfl | k
      · exact absurd (h3 _ he) (lt_irrefl _)
      · exact k

/-- The time of an id. -/
def tm (L : List En) (i : Int) : Option Int := (L.find? fun e => e.1 == i).map Prod.snd
theorem tm_none {L : List En} {i : Int} : tm L i = none ↔ i ∉ ids L := by
  unfold tm
  rw [Option.map_eq_none_iff, List.find?_eq_none, mem_ids]
  constructor
  · rintro h ⟨t, ht⟩; exact h _ ht (by simp)
  · intro h e he k; exact h ⟨e.2, by have : e.1 = i := by simpa using k
                                     rw [← this]; exact he⟩
theorem tm_some {L : List En} (hn : Nod L) {i t : Int} : tm L i = some t ↔ (i, t) ∈ L := by
  unfold tm
  constructor
  · intro h
    obtain ⟨e, h1, h2⟩ := Option.map_eq_some_iff.1 h
    have h3 := List.mem_of_find?_eq_some h1
    have h4 : e.1 = i := by simpa using List.find?_some h1
    rw [← h4, ← h2]; exact h3
  · intro h
    cases hf : L.find? (fun e => e.1 == i) with
    | none => exact absurd (List.find?_eq_none.1 hf _ h) (by simp)
    | some e =>
      have h3 := List.mem_of_find?_eq_some hf
      have h4 : e.1 = i := by simpa using List.find?_some hf
      have : (i, e.2) ∈ L := by rw [← h4]; exact h3
      rw [Option.map_some, hn.uniq this h]
theorem tm_ext {L M : List En} (hn : Nod M) {i : Int} (h : ∀ t, tm L i = some t ↔ (i, t) ∈ M) : tm L i = tm M i := by
  refine Option.ext fun t => ?_
  rw [h t, tm_some hn]
theorem tm_del {L : List En} (hn : Nod L) (i j : Int) : tm (del L i) j = if j = i then none else tm L j := by
  refine Option.ext fun t => ?_
  rw [tm_some (hn.del i), mem_del]
  split
  · rename_i e; simp [e]
  · rename_i e; rw [tm_some hn]; simp [e]
theorem tm_ins {L : List En} (hn : Nod L) {x : En} (hx : ∀ e ∈ L, e.1 ≠ x.1) (j : Int) : tm (ins L x) j = if j = x.1 then some x.2 else tm L j := by
  refine Option.ext fun t => ?_
  rw [tm_some (hn.ins hx), mem_ins]
  split
  · rename_i e
    constructor
    · rintro (h | h)
      · rw [← h]
      · exact absurd e (hx _ h)
    · intro h
      left
      rw [e, ← Option.some.inj h]
  · rename_i e
    rw [tm_some hn]
    constructor
    · rintro (h | h)
      · exact absurd (congrArg Prod.fst h) e
      · exact h
    · exact .inr
theorem tm_set {L : List En} (hn : Nod L) (i t j : Int) : tm (set L i t) j = if j = i then some t else tm L j := by
  unfold set
  rw [tm_ins (hn.del i) (fun _ he => (mem_del.1 he).2), tm_del hn]
  split <;> simp_all
end Go.Proofs.Ytlnjgbdekcgmpaa
