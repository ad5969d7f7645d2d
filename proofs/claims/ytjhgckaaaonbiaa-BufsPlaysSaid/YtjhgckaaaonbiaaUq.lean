/- Mathematics of pools: sums of bytes behind pinning and unpinning; what a run of turns keeps; the lowest id that is not pinned. -/
import Derived.Test.YtjhgckaaaonbiaaUz
namespace Go.Proofs.Ytjhgckaaaonbiaa

/-- The bytes of the ids below n that are pinned. -/
def sumS (f m : Nat → Nat) (n : Nat) : Nat := ((sel f 1 n).map m).sum
theorem sumS_snoc (f m : Nat → Nat) (n : Nat) : sumS f m (n + 1) = sumS f m n + if f n = 1 then m n else 0 := by
  unfold sumS
  rw [sel_snoc, List.map_append, List.sum_append]
  by_cases h : f n = 1 <;> simp [h]
theorem sumS_congr {f f' m m' : Nat → Nat} {n : Nat} (h : ∀ i, i < n → f i = f' i ∧ m i = m' i) : sumS f m n = sumS f' m' n := by
  induction n with
  | zero => rfl
  | succ n ih =>
    rw [sumS_snoc, sumS_snoc, ih fun i hi => h i (by omega), (h n (by omega)).1, (h n (by omega)).2]
theorem sumS_put {f m : Nat → Nat} {j x n : Nat} (hj : j < n) (h0 : f j ≠ 1) : sumS (put f j 1) (put m j x) n = sumS f m n + x := by
  induction n with
  | zero => omega
  | succ n ih =>
    rw [sumS_snoc, sumS_snoc]
    by_cases h : j = n
    · subst h
      rw [put_same, put_same, if_pos rfl, if_neg h0, sumS_congr (f' := f) (m' := m) fun i hi => ⟨put_other (by omega), put_other (by omega)⟩]
      omega
    · rw [ih (by omega), put_other (show n ≠ j by omega), put_other (show n ≠ j by omega)]
      omega
theorem sumS_off {f m : Nat → Nat} {j u n : Nat} (hj : j < n) (h0 : f j = 1) (hu : u ≠ 1) : sumS (put f j u) m n + m j = sumS f m n := by
  induction n with
  | zero => omega
  | succ n ih =>
    rw [sumS_snoc, sumS_snoc]
    by_cases h : j = n
    · subst h
      rw [put_same, if_neg hu, if_pos h0, sumS_congr (f' := f) (m' := m) fun i hi => ⟨put_other (by omega), rfl⟩]
      omega
    · have := ih (by omega)
      rw [put_other (show n ≠ j by omega)]
      omega
theorem Po.used_sum (P : Po) : P.used = sumS P.t.s P.m P.t.n := rfl
theorem Po.used_put {P : Po} {i : Nat} (hi : i < P.t.n) (hs : P.t.s i ≠ 1) (x : Nat) : (P.put i x).used = P.used + x := sumS_put hi hs
theorem Po.used_gave {P : Po} {i : Nat} (hi : i < P.t.n) (hs : P.t.s i = 1) : (P.gave i).used + P.m i = P.used := by
  rw [Po.used_sum, Po.used_sum]
  unfold Po.gave Tb.gave
  split
  · exact sumS_off hi hs (by decide)
  · exact sumS_off hi hs (by decide)
theorem Po.len_put {P : Po} {i : Nat} (hi : i < P.t.n) (hs : P.t.s i = 0) (x : Nat) : (P.put i x).t.held.length = P.t.held.length + 1 := by
  have := sel_put_len (f := P.t.s) (v := 1) (u := 1) hi
  rw [if_neg (by omega), if_pos rfl] at this
  exact this

/-- What a run keeps. -/
structure Kp (P : Po) (n r g : Nat) : Prop where
  ok : P.Ok
  n_eq : P.t.n = n
  r_eq : P.room = r
  used : P.used ≤ P.room
  s2 : ∀ i, P.t.s i ≠ 2
  g_le : ∀ i, P.t.g i ≤ g
theorem Kp.fresh {n r f : Nat} (h1 : 1 ≤ n) (h2 : n ≤ 64) (h3 : 1 ≤ f) (h4 : f ≤ 4294967295) (h5 : r ≤ 16777216) : Kp (pfresh n r f) n r f :=
  ⟨pfresh_ok h1 h2 h3 h4 h5, rfl, rfl, by
    have e : (pfresh n r f).t.held = [] := held_none fun j _ => by show (0 : Nat) ≠ 1; decide
    rw [Po.used_none e]; exact Nat.zero_le _, fun i => by show (0 : Nat) ≠ 2; decide, fun i => by show (if i < n then f else 0) ≤ f; split <;> omega⟩
theorem Kp.pin {P : Po} {n r g : Nat} (h : Kp P n r g) (x : Int) : Kp (P.pin x) n r g := by
  by_cases e : P.can x = 0
  · obtain ⟨h1, h2, h3, i, t, hf⟩ := Po.can_zero e
    obtain ⟨f1, f2⟩ := Tb.free_lt hf
    rw [(Po.pin_zero e hf).1]
    refine ⟨h.ok.put i (by omega), h.n_eq, h.r_eq, ?_, fun j => ?_, h.g_le⟩
    · rw [Po.used_put f1 (by omega)]
      show P.used + x.toNat ≤ P.room
      omega
    · show (put P.t.s i 1) j ≠ 2
      have := h.s2 j
      simp only [put]
      split <;> omega
  · rw [(Po.pin_ne e).1]; exact h
theorem Kp.gave {P : Po} {n r g : Nat} (h : Kp P n r g) {i : Nat} (hi : i < P.t.n) (hs : P.t.s i = 1) (hg : g < 4294967295) : Kp (P.gave i) n r (g + 1) := by
  have hgi := h.g_le i
  have e : P.t.gave i = ⟨P.t.n, put P.t.s i 0, put P.t.g i (P.t.g i + 1)⟩ := by unfold Tb.gave; rw [if_neg (by omega)]
  refine ⟨h.ok.gave i, (P.t.gave_n i).trans h.n_eq, h.r_eq, ?_, fun j => ?_, fun j => ?_⟩
  · have := Po.used_gave hi hs
    have := h.used
    show (P.gave i).used ≤ P.room
    omega
  · show (P.t.gave i).s j ≠ 2
    rw [e]
    have := h.s2 j
    simp only [put]
    split <;> omega
  · show (P.t.gave i).g j ≤ g + 1
    rw [e]
    have := h.g_le j
    simp only [put]
    split <;> omega
theorem Kp.mono {P : Po} {n r g g' : Nat} (h : Kp P n r g) (hg : g ≤ g') : Kp P n r g' := ⟨h.ok, h.n_eq, h.r_eq, h.used, h.s2, fun i => Nat.le_trans (h.g_le i) hg⟩
theorem Kp.turn {P : Po} {n r g : Nat} (h : Kp P n r g) (hg : g < 4294967295) (c : Bool) (q : Nat) : Kp (P.turn c q) n r (g + 1) := by
  unfold Po.turn
  split
  · exact (h.pin _).mono (by omega)
  · split
    · rename_i i hi
      have := Tb.held_at hi
      exact h.gave this.1 this.2 hg
    · exact h.mono (by omega)
theorem Kp.run {P : Po} {n r g : Nat} (h : Kp P n r g) (c : Nat → Bool) (q : Nat → Nat) : ∀ k, g + k ≤ 4294967295 → Kp (runP P c q k) n r (g + k)
  | 0, _ => h
  | k + 1, hk => (Kp.run h c q k (by omega)).turn (by omega) _ _

/-! ### the lowest id that is not pinned -/
/-- The lowest free id, or the size. -/
def Po.lo (P : Po) : Nat := match P.t.free with | [] => P.t.n | i :: _ => i
theorem selFrom_lt {f : Nat → Nat} {v k n i : Nat} (h : i ∈ selFrom f v k n) : k ≤ i := by
  unfold selFrom at h
  have := (List.mem_filter.1 h).1
  rw [List.mem_range'] at this
  obtain ⟨d, _, rfl⟩ := this
  omega
theorem held_split {T : Tb} : ∀ i, i ≤ T.n → (∀ j, j < i → T.s j = 1) → T.held = List.range i ++ selFrom T.s 1 i T.n
  | 0, _, _ => by unfold Tb.held; rw [← selFrom_zero]; rfl
  | i + 1, hi, h => by
    rw [held_split i (by omega) fun j hj => h j (by omega), selFrom_step T.s 1 (show i < T.n by omega), if_pos (h i (by omega)), List.range_succ, List.append_assoc]
theorem Po.lo_spec {P : Po} (h2 : ∀ i, P.t.s i ≠ 2) (hst : ∀ i, P.t.s i ≤ 2) : P.lo ≤ P.t.held.length ∧ (∀ j, j < P.lo → P.t.held[j]? = some j) ∧ (∀ v, P.t.held[P.lo]? = some v → v ≠ P.lo) ∧ P.lo ≤ P.t.n := by
  have key : ∀ i, i ≤ P.t.n → (∀ j, j < i → P.t.s j ≠ 0) → P.t.held = List.range i ++ selFrom P.t.s 1 i P.t.n := fun i hi h => held_split i hi fun j hj => by
    have := h j hj; have := h2 j; have := hst j; omega
  have fin : ∀ i, i ≤ P.t.n → (∀ j, j < i → P.t.s j ≠ 0) → i ≤ P.t.held.length ∧ (∀ j, j < i → P.t.held[j]? = some j) := fun i hi h => by
    rw [key i hi h]
    refine ⟨by simp, fun j hj => ?_⟩
    rw [List.getElem?_append_left (by simpa using hj)]
    simp [hj]
  unfold Po.lo
  cases e : P.t.free with
  | nil =>
    have h0 : ∀ j, j < P.t.n → P.t.s j ≠ 0 := fun j hj hs => by
      have : j ∈ P.t.free := mem_sel.2 ⟨hj, hs⟩
      rw [e] at this
      cases this
    obtain ⟨f1, f2⟩ := fin P.t.n (Nat.le_refl _) h0
    refine ⟨f1, f2, fun v hv => ?_, Nat.le_refl _⟩
    have := (Tb.held_at hv).1
    show v ≠ P.t.n
    omega
  | cons i r =>
    obtain ⟨i1, i2⟩ := Tb.free_lt e
    have h0 : ∀ j, j < i → P.t.s j ≠ 0 := fun j hj hs => by
      have hm : j ∈ P.t.free := mem_sel.2 ⟨by omega, hs⟩
      have hp := sel_sorted P.t.s 0 P.t.n
      rw [show sel P.t.s 0 P.t.n = i :: r from e] at hp
      rw [e] at hm
      rcases List.mem_cons.1 hm with h | h
      · omega
      · have := (List.pairwise_cons.1 hp).1 j h; omega
    obtain ⟨f1, f2⟩ := fin i (by omega) h0
    refine ⟨f1, f2, fun v hv hvi => ?_, by show i ≤ P.t.n; omega⟩
    have := (Tb.held_at hv).2
    have hvi2 : v = i := hvi
    rw [hvi2, i2] at this
    omega
/-- All ids are pinned just where none is free. -/
theorem Po.full_iff {P : Po} (h2 : ∀ i, P.t.s i ≠ 2) (hst : ∀ i, P.t.s i ≤ 2) : (P.t.free = [] ↔ ¬ P.t.held.length < P.t.n) ∧ P.t.held.length ≤ P.t.n := by
  have h := sel_all hst P.t.n
  have hg : sel P.t.s 2 P.t.n = [] := by
    rw [List.eq_nil_iff_forall_not_mem]
    intro i hi
    exact h2 i (mem_sel.1 hi).2
  rw [hg] at h
  simp only [List.length_nil] at h
  unfold Tb.free Tb.held
  refine ⟨?_, by omega⟩
  constructor
  · intro e
    rw [e] at h
    simp only [List.length_nil] at h
    omega
  · intro e
    exact List.eq_nil_of_length_eq_zero (by omega)
end Go.Proofs.Ytjhgckaaaonbiaa
