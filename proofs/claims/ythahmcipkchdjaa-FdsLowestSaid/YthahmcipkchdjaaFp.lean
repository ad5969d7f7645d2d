/- Plain mathematics of open files in order of their ids: which lists they are, by their members. -/
import Derived.Test.YthahmcipkchdjaaFz
namespace Go.Proofs.Ythahmcipkchdjaa
open Go.RowKit

/-- Two lists in strict order with the same members are the same. -/
theorem srt_ext : ∀ {l m : List Nat}, l.Pairwise (· < ·) → m.Pairwise (· < ·) → (∀ x, x ∈ l ↔ x ∈ m) → l = m
  | [], [], _, _, _ => rfl
  | [], b :: m, _, _, h => by have := (h b).2 (by simp); simp at this
  | a :: l, [], _, _, h => by have := (h a).1 (by simp); simp at this
  | a :: l, b :: m, h1, h2, h => by
    rw [List.pairwise_cons] at h1 h2
    have hab : a = b := by
      rcases List.mem_cons.1 ((h a).1 (by simp)) with e | e
      · exact e
      · rcases List.mem_cons.1 ((h b).2 (by simp)) with e' | e'
        · exact e'.symm
        · have := h1.1 _ e'; have := h2.1 _ e; omega
    subst hab
    rw [srt_ext h1.2 h2.2 fun x => ?_]
    constructor
    · intro hx
      rcases List.mem_cons.1 ((h x).1 (List.mem_cons_of_mem _ hx)) with e | e
      · have := h1.1 _ hx; omega
      · exact e
    · intro hx
      rcases List.mem_cons.1 ((h x).2 (List.mem_cons_of_mem _ hx)) with e | e
      · have := h2.1 _ hx; omega
      · exact e
theorem held_is {T : Tb} {l : List Nat} (h1 : l.Pairwise (· < ·)) (h2 : ∀ i, i ∈ l ↔ i < T.n ∧ T.s i = 1) : T.held = l :=
  srt_ext (sel_sorted _ _ _) h1 fun i => (mem_sel (f := T.s) (v := 1) (n := T.n) (i := i)).trans (h2 i).symm
theorem Fb.all_eq (F : Fb) : F.all = F.t.held.map fun i => ⟨1, (i : Int), (F.t.g i : Int)⟩ := by
  simp [Fb.all, Tb.now, Tb.refs, fro, Function.comp_def]

/-- Ids below i are open with the numbers c, the others are free; all in generation f. -/
structure Ops (F : Fb) (n f i : Nat) (c : Nat → Nat) : Prop where
  n_eq : F.t.n = n
  s1 : ∀ j, j < i → F.t.s j = 1
  s0 : ∀ j, i ≤ j → j < n → F.t.s j = 0
  g : ∀ j, j < n → F.t.g j = f
  num : ∀ j, j < i → F.num j = c j
theorem Ops.fresh (n f : Nat) (c : Nat → Nat) : Ops (ffresh n f) n f 0 c := ⟨rfl, fun _ h => absurd h (Nat.not_lt_zero _), fun _ _ _ => rfl, fun _ h => if_pos h, fun _ h => absurd h (Nat.not_lt_zero _)⟩
theorem Ops.free {F : Fb} {n f i : Nat} {c : Nat → Nat} (h : Ops F n f i c) (hi : i < n) : ∃ r, F.t.free = i :: r :=
  free_head (fun j hj => by rw [h.s1 j hj]; omega) (h.s0 i (Nat.le_refl _) hi) (by rw [h.n_eq]; exact hi)
theorem Ops.next {F : Fb} {n f i : Nat} {c : Nat → Nat} (h : Ops F n f i c) : Ops (F.opened i (c i)) n f (i + 1) c := by
  refine ⟨h.n_eq, fun j hj => ?_, fun j h1 h2 => ?_, h.g, fun j hj => ?_⟩
  · show put F.t.s i 1 j = 1
    by_cases e : j = i
    · rw [e, put_same]
    · rw [put_other e]; exact h.s1 j (by omega)
  · show put F.t.s i 1 j = 0
    rw [put_other (by omega)]; exact h.s0 j (by omega) h2
  · show put F.num i (c i) j = c j
    by_cases e : j = i
    · rw [e, put_same]
    · rw [put_other e]; exact h.num j (by omega)
/-- The open files. -/
def opsL (f i : Nat) : List Ro := (List.range i).map fun (j : Nat) => ⟨1, (j : Int), (f : Int)⟩
theorem opsL_len (f i : Nat) : (opsL f i).length = i := by simp [opsL]
theorem opsL_at (f i j : Nat) (h : j < (opsL f i).length) : (opsL f i)[j] = ⟨1, (j : Int), (f : Int)⟩ := by simp [opsL]
theorem Ops.held {F : Fb} {n f i : Nat} {c : Nat → Nat} (h : Ops F n f i c) (hi : i ≤ n) : F.t.held = List.range i :=
  held_is List.pairwise_lt_range fun j => by
    rw [List.mem_range, h.n_eq]
    constructor
    · intro hj; exact ⟨by omega, h.s1 j hj⟩
    · rintro ⟨h1, h2⟩
      rcases Nat.lt_or_ge j i with hj | hj
      · exact hj
      · have := h.s0 j hj h1; omega
theorem Ops.all {F : Fb} {n f i : Nat} {c : Nat → Nat} (h : Ops F n f i c) (hi : i ≤ n) : F.all = opsL f i := by
  rw [F.all_eq, h.held hi]
  exact List.map_congr_left fun j hj => by rw [h.g j (by have := List.mem_range.1 hj; omega)]
theorem Ops.chk {F : Fb} {n f i j : Nat} {c : Nat → Nat} (h : Ops F n f i c) (hF : F.Ok) (hi : i ≤ n) (hj : j < i) : F.chk 1 j f = 0 ∧ F.number 1 j f = c j := by
  have h1 : F.chk 1 j f = 0 := by
    have := hF.chk_held (i := j) (by rw [h.n_eq]; omega) (h.s1 j hj)
    rw [h.g j (by omega)] at this; exact this
  refine ⟨h1, ?_⟩
  unfold Fb.number
  rw [Fb.look_open h1]
  simp [h.num j hj]
/-- With one of them closed. -/
theorem Ops.close_chk {F : Fb} {n f i k j : Nat} {c : Nat → Nat} (h : Ops F n f i c) (hF : F.Ok) (hi : i ≤ n) (hk : k < i) (hj : j < i) : (F.close k).chk 1 j f = (if j = k then 7 else 0) ∧ (F.close k).number 1 j f = (if j = k then 0 else (c j : Int)) := by
  have hkn : k < F.t.n := by rw [h.n_eq]; omega
  have hl := Fb.look_close hF hkn (h.s1 k hk) 1 j f
  rw [h.g k (by omega)] at hl
  have hc0 := (h.chk hF hi hj).1
  by_cases e : j = k
  · subst e
    rw [if_pos ⟨rfl, rfl, rfl⟩] at hl
    have hne : (F.close j).chk 1 j f ≠ 0 := fun e2 => by rw [Fb.look_open e2] at hl; cases hl
    obtain ⟨hfile, _⟩ := Fb.chk_zero hc0
    refine ⟨?_, by unfold Fb.number; rw [hl, if_pos rfl]; rfl⟩
    rw [if_pos rfl]
    unfold Fb.chk at hne ⊢
    rw [if_pos hfile] at hne ⊢
    unfold Tb.chk at hne ⊢
    have e1 : ¬ ((j : Int) < 0 ∨ ((F.close j).t.n : Int) ≤ j) := by rw [F.close_n]; omega
    rw [if_neg e1] at hne ⊢
    split
    · rename_i h2; rw [if_pos h2] at hne; exact absurd rfl hne
    · rfl
  · rw [if_neg (by rintro ⟨_, h2, _⟩; omega), Fb.look_open hc0] at hl
    have h1 : (F.close k).chk 1 j f = 0 := by
      by_cases e2 : (F.close k).chk 1 j f = 0
      · exact e2
      · rw [Fb.look_none e2] at hl; cases hl
    rw [if_neg e, if_neg e]
    refine ⟨h1, ?_⟩
    unfold Fb.number
    rw [hl]
    simp [h.num j hj]
theorem Ops.close_all {F : Fb} {n f i k : Nat} {c : Nat → Nat} (h : Ops F n f i c) (hi : i ≤ n) (hk : k < i) : (F.close k).all = (opsL f i).eraseIdx k := by
  have hh : (F.close k).t.held = (List.range i).eraseIdx k := by
    refine held_is (List.Pairwise.sublist (List.eraseIdx_sublist _ _) List.pairwise_lt_range) fun j => ?_
    rw [List.mem_eraseIdx_iff_getElem?, F.close_n, h.n_eq]
    have hs : (F.close k).t.s j = 1 ↔ j ≠ k ∧ F.t.s j = 1 := by
      by_cases e : j = k
      · subst e
        exact ⟨fun e2 => absurd e2 (gave_s_ne F.t j), fun e2 => absurd rfl e2.1⟩
      · show (F.t.gave k).s j = 1 ↔ _
        rw [gave_s_other e]
        exact ⟨fun e2 => ⟨e, e2⟩, fun e2 => e2.2⟩
    rw [hs]
    constructor
    · rintro ⟨q, hq, hx⟩
      obtain ⟨h1, h2⟩ := List.getElem?_eq_some_iff.1 hx
      rw [List.length_range] at h1
      rw [List.getElem_range] at h2
      subst h2
      exact ⟨by omega, hq, h.s1 q h1⟩
    · rintro ⟨h1, h2, h3⟩
      have hj : j < i := by
        rcases Nat.lt_or_ge j i with hj | hj
        · exact hj
        · have := h.s0 j hj h1; omega
      exact ⟨j, h2, by rw [List.getElem?_range hj]⟩
  rw [Fb.all_eq, hh]
  have hm : ∀ (g : Nat → Ro) (l : List Nat) (q : Nat), (l.map g).eraseIdx q = (l.eraseIdx q).map g := by
    intro g l
    induction l with
    | nil => intro q; rfl
    | cons a l ih =>
      intro q
      cases q with
      | zero => rfl
      | succ q => simp only [List.map_cons, List.eraseIdx_cons_succ]; rw [ih q]
  unfold opsL
  rw [hm]
  refine List.map_congr_left fun j hj => ?_
  rw [List.mem_eraseIdx_iff_getElem?] at hj
  obtain ⟨q, hq, hx⟩ := hj
  obtain ⟨h1, h2⟩ := List.getElem?_eq_some_iff.1 hx
  rw [List.length_range] at h1
  rw [List.getElem_range] at h2
  subst h2
  show (⟨1, (q : Int), ((F.t.gave k).g q : Int)⟩ : Ro) = _
  rw [gave_g_other hq, h.g q (by omega)]
end Go.Proofs.Ythahmcipkchdjaa
