/- Mathematics of BufsNames: what is pinned, in the order in which it was pinned; what is gone; which names were seen. -/
import Derived.Test.YtjhgckaaaonbiaaUq
namespace Go.Proofs.Ytjhgckaaaonbiaa
open Go.RowKit

/-- A buffer that is pinned: its id, its generation, its bytes. -/
structure It where
  i : Nat
  g : Nat
  x : Nat
/-- Which names were seen. -/
abbrev Sn := Int → Int → Int → Bool
def seen1 (N : Sn) (k i g : Int) : Sn := fun k' i' g' => if k' = k ∧ i' = i ∧ g' = g then true else N k' i' g'
structure Nw (P : Po) (n f : Nat) (R : List It) (G : List (Nat × Nat)) (N : Sn) : Prop where
  ok : P.Ok
  n_eq : P.t.n = n
  nod : (R.map (·.i)).Nodup
  mem : ∀ r ∈ R, r.i < n ∧ P.t.s r.i = 1 ∧ r.g = P.t.g r.i ∧ r.x = P.m r.i
  all : ∀ i, i < n → P.t.s i = 1 → ∃ r ∈ R, r.i = i
  yes : ∀ r ∈ R, N 2 r.i r.g = true
  no : ∀ i g : Nat, N 2 i g = true → P.t.Was (i, g)
  gone : ∀ r ∈ G, r.1 < n ∧ (r.2 < P.t.g r.1 ∨ (r.2 = P.t.g r.1 ∧ P.t.s r.1 = 2))
  lo : ∀ i, i < n → f ≤ P.t.g i
theorem Nw.fresh {n r f : Nat} (h1 : 1 ≤ n) (h2 : n ≤ 64) (h3 : 1 ≤ f) (h4 : f ≤ 4294967295) (h5 : r ≤ 16777216) : Nw (pfresh n r f) n f [] [] (fun _ _ _ => false) where
  ok := pfresh_ok h1 h2 h3 h4 h5
  n_eq := rfl
  nod := List.nodup_nil
  mem r h := by simp at h
  all i _ h := by have : (pfresh n r f).t.s i = 0 := rfl; omega
  yes r h := by simp at h
  no i g h := by cases h
  gone r h := by simp at h
  lo i hi := by have : (pfresh n r f).t.g i = f := if_pos hi; omega
section
variable {P : Po} {n f : Nat} {R : List It} {G : List (Nat × Nat)} {N : Sn}
theorem Nw.perm (h : Nw P n f R G N) : (R.map (·.i)).Perm P.t.held := by
  refine (List.perm_ext_iff_of_nodup h.nod ?_).2 fun i => ?_
  · exact (sel_sorted P.t.s 1 P.t.n).imp fun h => Nat.ne_of_lt h
  · rw [List.mem_map]
    constructor
    · rintro ⟨r, hr, rfl⟩
      obtain ⟨h1, h2, _⟩ := h.mem r hr
      exact mem_sel.2 ⟨by rw [h.n_eq]; exact h1, h2⟩
    · intro hi
      obtain ⟨h1, h2⟩ := mem_sel.1 hi
      exact h.all i (by rw [← h.n_eq]; exact h1) h2
theorem Nw.len (h : Nw P n f R G N) : R.length = P.t.held.length := by
  have := h.perm.length_eq
  simpa using this
theorem sum_perm {l m : List Nat} (h : l.Perm m) : l.sum = m.sum := by
  induction h with
  | nil => rfl
  | cons x _ ih => simp [ih]
  | swap x y l => simp; omega
  | trans _ _ ih1 ih2 => exact ih1.trans ih2
theorem Nw.sum (h : Nw P n f R G N) : (R.map (·.x)).sum = P.used := by
  have e : R.map (·.x) = (R.map (·.i)).map P.m := by
    rw [List.map_map]
    exact List.map_congr_left fun r hr => (h.mem r hr).2.2.2
  rw [e]
  exact sum_perm (h.perm.map P.m)
theorem Nw.chk (h : Nw P n f R G N) {r : It} (hr : r ∈ R) : P.chk 2 r.i r.g = 0 ∧ P.size 2 r.i r.g = r.x := by
  obtain ⟨h1, h2, h3, h4⟩ := h.mem r hr
  rw [h3, h4]
  exact ⟨Po.chk_held (by rw [h.n_eq]; exact h1) h2, Po.size_held (by rw [h.n_eq]; exact h1) h2⟩
theorem Nw.stale (h : Nw P n f R G N) {r : Nat × Nat} (hr : r ∈ G) : P.chk 2 r.1 r.2 = 7 := by
  obtain ⟨h1, h2⟩ := h.gone r hr
  have hn := h.n_eq
  unfold Po.chk Tb.chk
  rw [if_pos rfl, if_neg (by omega), Int.toNat_natCast, if_neg]
  rintro ⟨h3, h4⟩
  rcases h2 with h2 | ⟨h2, h5⟩ <;> omega
theorem Nw.new (h : Nw P n f R G N) {i : Nat} (hs : P.t.s i = 0) : N 2 i (P.t.g i) = false := by
  cases c : N 2 i (P.t.g i) with
  | false => rfl
  | true =>
    obtain ⟨_, h2⟩ := h.no _ _ c
    simp only [hs] at h2
    omega
/-- A buffer is pinned at the id i, that is free. -/
theorem Nw.pin (h : Nw P n f R G N) {i x : Nat} (hi : i < n) (hs : P.t.s i = 0) (hx : x ≤ 65536) : Nw (P.put i x) n f (R ++ [⟨i, P.t.g i, x⟩]) G (seen1 N 2 i (P.t.g i)) := by
  have es : ∀ q, (P.put i x).t.s q = if q = i then 1 else P.t.s q := fun q => by
    by_cases c : q = i
    · subst c; simp [Po.put, Tb.took, Go.Proofs.Ytjhgckaaaonbiaa.put]
    · simp [Po.put, Tb.took, Go.Proofs.Ytjhgckaaaonbiaa.put, c]
  have en : ∀ q, (P.put i x).m q = if q = i then x else P.m q := fun q => by
    by_cases c : q = i
    · subst c; simp [Po.put, Go.Proofs.Ytjhgckaaaonbiaa.put]
    · simp [Po.put, Go.Proofs.Ytjhgckaaaonbiaa.put, c]
  have eg : ∀ q, (P.put i x).t.g q = P.t.g q := fun _ => rfl
  have hne : ∀ r ∈ R, r.i ≠ i := fun r hr e => by have := (h.mem r hr).2.1; rw [e] at this; omega
  refine ⟨h.ok.put i hx, h.n_eq, ?_, fun r hr => ?_, fun q hq hq1 => ?_, fun r hr => ?_, fun q g hN => ?_, fun r hr => ?_, fun q hq => ?_⟩
  · rw [List.map_append, List.nodup_append]
    refine ⟨h.nod, by simp, fun a ha b hb e => ?_⟩
    obtain ⟨r, hr, rfl⟩ := List.mem_map.1 ha
    simp at hb
    exact hne r hr (by rw [e, hb])
  · rw [es, eg, en]
    rcases List.mem_append.1 hr with hr | hr
    · rw [if_neg (hne r hr), if_neg (hne r hr)]; exact h.mem r hr
    · simp at hr; subst hr
      simp only [if_pos]
      exact ⟨hi, trivial, trivial, trivial⟩
  · rw [es] at hq1
    by_cases c : q = i
    · subst c; exact ⟨⟨q, P.t.g q, x⟩, List.mem_append.2 (.inr (by simp)), rfl⟩
    · rw [if_neg c] at hq1
      obtain ⟨r, hr, e⟩ := h.all q hq hq1
      exact ⟨r, List.mem_append.2 (.inl hr), e⟩
  · unfold seen1
    rcases List.mem_append.1 hr with hr | hr
    · split
      · rfl
      · exact h.yes r hr
    · simp at hr; subst hr
      rw [if_pos ⟨rfl, rfl, rfl⟩]
  · unfold seen1 at hN
    split at hN
    · rename_i c
      obtain ⟨_, c2, c3⟩ := c
      have e1 : q = i := by omega
      have e2 : g = P.t.g i := by omega
      subst e1 e2
      exact ⟨by show q < P.t.n; rw [h.n_eq]; exact hi, .inr ⟨rfl, by rw [es, if_pos rfl]; decide⟩⟩
    · exact (h.no q g hN).took i
  · rw [eg, es]
    obtain ⟨h1, h2⟩ := h.gone r hr
    refine ⟨h1, ?_⟩
    rcases h2 with h2 | ⟨h2, h3⟩
    · exact .inl h2
    · refine .inr ⟨h2, ?_⟩
      rw [if_neg]
      · exact h3
      · intro e; rw [e] at h3; omega
  · rw [eg]; exact h.lo q hq
/-- The buffer at place q is unpinned. -/
theorem Nw.unpin (h : Nw P n f R G N) {q : Nat} (hq : q < R.length) : Nw (P.gave R[q].i) n f (R.eraseIdx q) (G ++ [(R[q].i, R[q].g)]) N := by
  obtain ⟨m1, m2, m3, m4⟩ := h.mem R[q] (List.getElem_mem hq)
  generalize hi : R[q].i = i at *
  generalize hgq : R[q].g = gq at *
  have hgi := h.ok.t.gm i
  have es : ∀ q, q ≠ i → (P.gave i).t.s q = P.t.s q := fun q c => by
    show (P.t.gave i).s q = _
    unfold Tb.gave
    split <;> exact put_other c
  have eg : ∀ q, q ≠ i → (P.gave i).t.g q = P.t.g q := fun q c => by
    show (P.t.gave i).g q = _
    unfold Tb.gave
    split
    · rfl
    · exact put_other c
  have ei : ((P.gave i).t.s i = 0 ∧ (P.gave i).t.g i = P.t.g i + 1) ∨ ((P.gave i).t.s i = 2 ∧ (P.gave i).t.g i = P.t.g i) := by
    show ((P.t.gave i).s i = 0 ∧ (P.t.gave i).g i = P.t.g i + 1) ∨ ((P.t.gave i).s i = 2 ∧ (P.t.gave i).g i = P.t.g i)
    unfold Tb.gave
    split
    · exact .inr ⟨put_same _ _ _, rfl⟩
    · exact .inl ⟨put_same _ _ _, put_same _ _ _⟩
  have hne : ∀ r ∈ R.eraseIdx q, r ∈ R ∧ r.i ≠ i := fun r hr => by
    rw [List.mem_eraseIdx_iff_getElem] at hr
    obtain ⟨t, ht, hne, rfl⟩ := hr
    refine ⟨List.getElem_mem ht, fun e => hne ?_⟩
    have hp := h.nod
    rw [List.nodup_iff_pairwise_ne, List.pairwise_map] at hp
    rw [List.pairwise_iff_getElem] at hp
    rcases Nat.lt_trichotomy t q with c | c | c
    · exact absurd (by rw [e, hi]) (hp t q ht hq c)
    · exact c
    · exact absurd (by rw [e, hi]) (hp q t hq ht c)
  refine ⟨h.ok.gave i, (P.t.gave_n i).trans h.n_eq, ?_, fun r hr => ?_, fun t ht ht1 => ?_, fun r hr => ?_, fun t g hN => ?_, fun r hr => ?_, fun t ht => ?_⟩
  · exact ((List.eraseIdx_sublist R q).map _).nodup h.nod
  · obtain ⟨h1, h2⟩ := hne r hr
    rw [es r.i h2, eg r.i h2]
    exact h.mem r h1
  · by_cases c : t = i
    · subst c; omega
    · rw [es t c] at ht1
      obtain ⟨r, hr, e⟩ := h.all t ht ht1
      refine ⟨r, ?_, e⟩
      rw [List.mem_eraseIdx_iff_getElem]
      obtain ⟨u, hu, rfl⟩ := List.getElem_of_mem hr
      exact ⟨u, hu, fun e2 => c (by subst e2; rw [← e, hi]), rfl⟩
  · exact h.yes r (hne r hr).1
  · exact (h.no t g hN).gave m2
  · rcases List.mem_append.1 hr with hr | hr
    · obtain ⟨h1, h2⟩ := h.gone r hr
      refine ⟨h1, ?_⟩
      by_cases c : r.1 = i
      · rw [c] at h2 ⊢
        rcases h2 with h2 | ⟨_, h3⟩
        · left; omega
        · omega
      · rw [es r.1 c, eg r.1 c]; exact h2
    · simp at hr; subst hr
      refine ⟨m1, ?_⟩
      show gq < (P.gave i).t.g i ∨ gq = (P.gave i).t.g i ∧ (P.gave i).t.s i = 2
      omega
  · have := h.lo t ht
    by_cases c : t = i
    · subst c; omega
    · rw [eg t c]; exact this
/-- What is listed of a pool was seen. -/
theorem Nw.listed (h : Nw P n f R G N) {i : Nat} (hi : i < n) (hs : P.t.s i = 1) : N 2 i (P.t.g i) = true := by
  obtain ⟨r, hr, rfl⟩ := h.all i hi hs
  have := h.yes r hr
  rwa [(h.mem r hr).2.2.1] at this
end
end Go.Proofs.Ytjhgckaaaonbiaa
