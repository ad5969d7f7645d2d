/- Mathematics of FdsLowest: the open files in the order in which they were opened, and what the map knows of numbers. -/
import Derived.Test.YthahmcipkchdjaaFp
namespace Go.Proofs.Ythahmcipkchdjaa
open Go.RowKit

structure Lw (F : Fb) (n f j : Nat) (R : List (Nat × Nat)) (N : Lk) : Prop where
  ok : F.Ok
  n_eq : F.t.n = n
  nod : (R.map (·.1)).Nodup
  mem : ∀ r, r ∈ R ↔ r.1 < n ∧ F.t.s r.1 = 1 ∧ r.2 = F.t.g r.1
  gb : ∀ i, i < n → F.t.g i ≤ f + j
  s2 : ∀ i, i < n → F.t.s i ≠ 2
  yes : ∀ i, i < n → F.t.s i = 1 → N 1 i (F.t.g i) = some (F.num i : Int)
  no : ∀ (i : Nat) (g : Int), i < n → N 1 i g ≠ none → g < F.t.g i ∨ (g = F.t.g i ∧ F.t.s i = 1)
theorem Lw.fresh {n f : Nat} (h1 : 1 ≤ n) (h2 : n ≤ 64) (h3 : 1 ≤ f) (h4 : f ≤ 4294967295) : Lw (ffresh n f) n f 0 [] (fun _ _ _ => none) where
  ok := ffresh_ok h1 h2 h3 h4
  n_eq := rfl
  nod := List.nodup_nil
  mem r := by
    refine ⟨fun h => by simp at h, fun h => ?_⟩
    have : (ffresh n f).t.s r.1 = 0 := rfl
    omega
  gb i hi := by have : (ffresh n f).t.g i = f := if_pos hi; omega
  s2 i _ := by have : (ffresh n f).t.s i = 0 := rfl; omega
  yes i _ h := by have : (ffresh n f).t.s i = 0 := rfl; omega
  no i g _ h := absurd rfl h
section
variable {F : Fb} {n f j : Nat} {R : List (Nat × Nat)} {N : Lk}
theorem Lw.skip (h : Lw F n f j R N) : Lw F n f (j + 1) R N := { h with gb := fun i hi => by have := h.gb i hi; omega }
theorem Lw.rnod (h : Lw F n f j R N) : R.Nodup := (List.pairwise_map.1 h.nod).imp fun h e => h (by rw [e])
theorem Lw.len (h : Lw F n f j R N) : R.length ≤ n := by
  have h1 : (R.map (·.1)) ⊆ List.range n := by
    intro i hi
    obtain ⟨r, hr, rfl⟩ := List.mem_map.1 hi
    exact List.mem_range.2 ((h.mem r).1 hr).1
  have := h.nod.length_le_of_subset h1
  simpa using this
/-- A file is opened at the id i, that is free. -/
theorem Lw.open (h : Lw F n f j R N) {i x : Nat} (hi : i < n) (hs : F.t.s i = 0) (hx : x ≤ 65535) : Lw (F.opened i x) n f (j + 1) (R ++ [(i, F.t.g i)]) (upd N 1 i (F.t.g i) (some x)) := by
  have es : ∀ q, (F.opened i x).t.s q = if q = i then 1 else F.t.s q := fun q => by
    by_cases c : q = i
    · subst c; simp [Fb.opened, Tb.took, put_same]
    · simp [Fb.opened, Tb.took, put_other c, c]
  have en : ∀ q, (F.opened i x).num q = if q = i then x else F.num q := fun q => by
    by_cases c : q = i
    · subst c; simp [Fb.opened, put_same]
    · simp [Fb.opened, put_other c, c]
  have eg : ∀ q, (F.opened i x).t.g q = F.t.g q := fun _ => rfl
  refine ⟨h.ok.opened i hx, h.n_eq, ?_, fun r => ?_, fun q hq => ?_, fun q hq => ?_, fun q hq hq1 => ?_, fun q g hq hN => ?_⟩
  · rw [List.map_append, List.nodup_append]
    refine ⟨h.nod, by simp, ?_⟩
    intro a ha b hb e
    obtain ⟨r, hr, rfl⟩ := List.mem_map.1 ha
    simp at hb
    have := ((h.mem r).1 hr).2.1
    rw [e, hb] at this; omega
  · rw [List.mem_append, h.mem, es, eg]
    by_cases c : r.1 = i
    · rw [if_pos c]
      constructor
      · rintro (⟨h1, h2, h3⟩ | hr)
        · exact ⟨h1, rfl, h3⟩
        · simp at hr; subst hr; exact ⟨hi, rfl, rfl⟩
      · rintro ⟨_, _, h3⟩
        right; simp
        exact Prod.ext c (by rw [h3, c])
    · rw [if_neg c]
      constructor
      · rintro (h1 | hr)
        · exact h1
        · simp at hr; subst hr; exact absurd rfl c
      · exact .inl
  · rw [eg]; have := h.gb q hq; omega
  · rw [es]; split
    · omega
    · exact h.s2 q hq
  · rw [es] at hq1
    rw [eg, en]
    by_cases c : q = i
    · subst c; rw [if_pos rfl, upd_same]
    · rw [if_neg c] at hq1 ⊢
      rw [upd_other _ (by omega)]; exact h.yes q hq hq1
  · rw [eg, es]
    by_cases c : (1 : Int) = 1 ∧ (q : Int) = i ∧ g = F.t.g i
    · obtain ⟨_, c2, c3⟩ := c
      have : q = i := by omega
      subst this
      exact .inr ⟨c3, if_pos rfl⟩
    · rw [upd_other _ c] at hN
      rcases h.no q g hq hN with h1 | ⟨h1, h2⟩
      · exact .inl h1
      · refine .inr ⟨h1, ?_⟩
        split
        · rfl
        · exact h2
theorem Lw.absent (h : Lw F n f j R N) {i : Nat} (hi : i < n) (hs : F.t.s i = 0) : N 1 i (F.t.g i) = none := by
  by_cases c : N 1 i (F.t.g i) = none
  · exact c
  · rcases h.no i _ hi c with h1 | ⟨_, h1⟩ <;> omega
/-- The file at place q is closed. -/
theorem Lw.close (h : Lw F n f j R N) {q : Nat} (hq : q < R.length) (hf : f + j < 4294967295) : Lw (F.close R[q].1) n f (j + 1) (R.eraseIdx q) N := by
  obtain ⟨m1, m2, m3⟩ := (h.mem R[q]).1 (List.getElem_mem hq)
  generalize hi : R[q].1 = i at *
  have hg := h.gb i m1
  have e0 : F.t.gave i = ⟨F.t.n, put F.t.s i 0, put F.t.g i (F.t.g i + 1)⟩ := by unfold Tb.gave; rw [if_neg (by omega)]
  have es : ∀ q, (F.close i).t.s q = if q = i then 0 else F.t.s q := fun q => by
    show (F.t.gave i).s q = _
    rw [e0]
    by_cases c : q = i
    · subst c; simp [put_same]
    · simp [put_other c, c]
  have eg : ∀ q, (F.close i).t.g q = if q = i then F.t.g i + 1 else F.t.g q := fun q => by
    show (F.t.gave i).g q = _
    rw [e0]
    by_cases c : q = i
    · subst c; simp [put_same]
    · simp [put_other c, c]
  have en : ∀ q, q ≠ i → (F.close i).num q = F.num q := fun q c => by simp [Fb.close, put_other c]
  refine ⟨h.ok.close i, (F.close_n i).trans h.n_eq, ?_, fun r => ?_, fun q hq => ?_, fun q hq => ?_, fun q hq hq1 => ?_, fun q g hq hN => ?_⟩
  · exact ((List.eraseIdx_sublist R q).map _).nodup h.nod
  · have hme : r ∈ R.eraseIdx q ↔ r ≠ R[q] ∧ r ∈ R := by
      rw [List.mem_eraseIdx_iff_getElem]
      constructor
      · rintro ⟨t, ht, hne, rfl⟩
        exact ⟨fun e => hne ((List.getElem_inj h.rnod).1 e), List.getElem_mem ht⟩
      · rintro ⟨h1, h2⟩
        obtain ⟨t, ht, rfl⟩ := List.getElem_of_mem h2
        exact ⟨t, ht, fun e => h1 (by subst e; rfl), rfl⟩
    rw [hme, h.mem, es, eg]
    by_cases c : r.1 = i
    · rw [if_pos c]
      refine ⟨fun ⟨h1, h2, h3, h4⟩ => absurd (Prod.ext (by rw [c, hi]) (by rw [h4, c, m3])) h1, fun h => by omega⟩
    · rw [if_neg c, if_neg c]
      exact ⟨fun h => h.2, fun h => ⟨fun e => c (by rw [e, hi]), h⟩⟩
  · rw [eg]; have := h.gb q hq; split <;> omega
  · rw [es]; split
    · omega
    · exact h.s2 q hq
  · rw [es] at hq1
    by_cases c : q = i
    · rw [if_pos c] at hq1; omega
    · rw [if_neg c] at hq1
      rw [eg, if_neg c, en q c]; exact h.yes q hq hq1
  · rw [eg, es]
    rcases h.no q g hq hN with h1 | ⟨h1, h2⟩
    · left; split
      · rename_i c; rw [c] at h1; omega
      · exact h1
    · by_cases c : q = i
      · left; rw [if_pos c, h1, c]; omega
      · rw [if_neg c, if_neg c]; exact .inr ⟨h1, h2⟩
/-- In the order of their ids they are all that is open. -/
theorem Lw.sorted (h : Lw F n f j R N) {S : List (Nat × Nat)} (hp : S.Perm R) (hs : S.Pairwise fun a b => a.1 ≤ b.1) : S.map fro = F.all := by
  have h1 : F.t.held = S.map (·.1) := held_is (by
      have hn : (S.map (·.1)).Nodup := (hp.map _).nodup_iff.2 h.nod
      have hle : (S.map (·.1)).Pairwise (· ≤ ·) := List.pairwise_map.2 hs
      exact (hle.and hn).imp fun ⟨a, b⟩ => Nat.lt_of_le_of_ne a b) fun i => by
    rw [List.mem_map, h.n_eq]
    constructor
    · rintro ⟨r, hr, rfl⟩
      have := (h.mem r).1 (hp.mem_iff.1 hr)
      exact ⟨this.1, this.2.1⟩
    · rintro ⟨h1, h2⟩
      exact ⟨(i, F.t.g i), hp.mem_iff.2 ((h.mem _).2 ⟨h1, h2, rfl⟩), rfl⟩
  rw [Fb.all_eq, h1, List.map_map]
  refine List.map_congr_left fun r hr => ?_
  have := ((h.mem r).1 (hp.mem_iff.1 hr)).2.2
  simp [fro, this]
/-- Where no open file has the id i, it is free. -/
theorem Lw.free (h : Lw F n f j R N) {i : Nat} (hi : i < n) (hn : ∀ r ∈ R, r.1 ≠ i) : F.t.s i = 0 := by
  have h1 := h.ok.t.st i
  have h2 := h.s2 i hi
  by_cases c : F.t.s i = 1
  · exact absurd rfl (hn (i, F.t.g i) ((h.mem _).2 ⟨hi, c, rfl⟩))
  · omega
theorem Lw.held (h : Lw F n f j R N) {i : Nat} (hn : ∃ r ∈ R, r.1 = i) : i < n ∧ F.t.s i = 1 := by
  obtain ⟨r, hr, rfl⟩ := hn
  have := (h.mem r).1 hr
  exact ⟨this.1, this.2.1⟩
end
/-- What the second map knows. -/
def Lk.ever (N : Lk) : Lk := fun k i g => (N k i g).map fun _ => 1
theorem ever_upd (N : Lk) (k i g x : Int) : (upd N k i g (some x)).ever = upd N.ever k i g (some 1) := by
  funext k' i' g'
  unfold Lk.ever upd
  split <;> rfl
end Go.Proofs.Ythahmcipkchdjaa
