/- Plain mathematics of the statements' desk: all leases that it has granted, until when each is granted (0: it was returned), the time. -/
import Derived.Test.YtfemfgpciogbeaaYx
namespace Go.Proofs.Ytfemfgpciogbeaa

/-- How many are above 0. -/
def cntP (U : List Nat) : Nat := U.countP (fun u => decide (0 < u))
theorem cntP_snoc (U : List Nat) (u : Nat) : cntP (U ++ [u]) = cntP U + if 0 < u then 1 else 0 := by
  unfold cntP
  rw [List.countP_append, List.countP_singleton]
  simp
theorem cntP_set {U : List Nat} {k u : Nat} (v : Nat) (h : U[k]? = some u) : cntP (U.set k v) + (if 0 < u then 1 else 0) = cntP U + if 0 < v then 1 else 0 := by
  obtain ⟨hk, rfl⟩ := List.getElem?_eq_some_iff.1 h
  unfold cntP
  rw [List.countP_set (h := hk)]
  have hle : (if decide (0 < U[k]) = true then 1 else 0) ≤ List.countP (fun u => decide (0 < u)) U := by
    by_cases c : decide (0 < U[k]) = true
    · rw [if_pos c]; exact List.countP_pos_iff.2 ⟨U[k], List.getElem_mem hk, c⟩
    · rw [if_neg c]; exact Nat.zero_le _
  simp only [decide_eq_true_eq] at hle ⊢
  omega
theorem cntP_le (U : List Nat) : cntP U ≤ U.length := List.countP_le_length
theorem cntP_take {U : List Nat} {j u : Nat} (h : U[j]? = some u) : cntP (U.take (j + 1)) = cntP (U.take j) + if 0 < u then 1 else 0 := by
  rw [List.take_add_one, h]
  exact cntP_snoc _ _

/-- The desk, the leases that were granted, until when, the time. -/
structure Lw where
  D : Dk
  L : List (Nat × Nat)
  U : List Nat
  now : Nat
/-- What is known of it behind j moves. -/
structure Lw.Ok (S : Lw) (j : Nat) : Prop where
  d : S.D.Ok
  len : S.L.length = S.U.length
  nodup : S.L.Nodup
  was : ∀ r ∈ S.L, S.D.t.Was r
  g1 : ∀ r ∈ S.L, 1 ≤ r.2
  zero : ∀ (k : Nat) (r : Nat × Nat), S.L[k]? = some r → S.U[k]? = some 0 → ¬ (S.D.t.s r.1 = 1 ∧ S.D.t.g r.1 = r.2)
  pos : ∀ (k : Nat) (r : Nat × Nat) (u : Nat), S.L[k]? = some r → S.U[k]? = some u → 0 < u → S.D.t.s r.1 = 1 ∧ S.D.t.g r.1 = r.2 ∧ S.D.u r.1 = u
  cnt : cntP S.U = S.D.t.held.length
  now : S.now ≤ 7 * j
  ll : S.L.length ≤ j
  uu : ∀ (k u : Nat), S.U[k]? = some u → u ≤ 7 * j + 16
/-- At most one of the times is changed. -/
def OneU (U V : List Nat) : Prop := V = U ∨ (∃ x, V = U ++ [x]) ∨ ∃ k x, k < U.length ∧ V = U.set k x
section
variable {S : Lw} {j : Nat}
theorem Lw.Ok.wait (h : S.Ok j) {a : Nat} (ha : a ≤ 7) : Lw.Ok ⟨S.D, S.L, S.U, S.now + a⟩ (j + 1) :=
  ⟨h.d, h.len, h.nodup, h.was, h.g1, h.zero, h.pos, h.cnt, by have := h.now; simp only []; omega, by have := h.ll; simp only []; omega, fun k u hu => by have := h.uu k u hu; omega⟩
/-- A lease, with its time, at a place. -/
theorem Lw.Ok.at (h : S.Ok j) {k : Nat} (hk : k < S.L.length) : ∃ r u, S.L[k]? = some r ∧ S.U[k]? = some u ∧ r.1 < S.D.t.n ∧ 1 ≤ r.2 ∧ r.2 ≤ S.D.t.g r.1 ∧ u ≤ 7 * j + 16 := by
  have hk2 : k < S.U.length := by rw [← h.len]; exact hk
  refine ⟨S.L[k], S.U[k], List.getElem?_eq_getElem hk, List.getElem?_eq_getElem hk2, ?_⟩
  have hm := List.getElem_mem hk
  obtain ⟨w1, w2⟩ := h.was _ hm
  exact ⟨w1, h.g1 _ hm, by omega, h.uu k _ (List.getElem?_eq_getElem hk2)⟩
theorem Lw.Ok.chk_pos (h : S.Ok j) {k u : Nat} {r : Nat × Nat} (h1 : S.L[k]? = some r) (h2 : S.U[k]? = some u) (h3 : 0 < u) : S.D.chk 3 r.1 r.2 = 0 ∧ S.D.u r.1 = u := by
  obtain ⟨p1, p2, p3⟩ := h.pos k r u h1 h2 h3
  have hw := (h.was r (List.mem_of_getElem? h1)).1
  have := h.d.chk_held hw p1
  rw [p2] at this
  exact ⟨this, p3⟩
theorem Lw.Ok.chk_zero (h : S.Ok j) {k : Nat} {r : Nat × Nat} (h1 : S.L[k]? = some r) (h2 : S.U[k]? = some 0) : S.D.chk 3 r.1 r.2 = 7 := by
  have hm := List.mem_of_getElem? h1
  have hw := (h.was r hm).1
  have hg := h.g1 r hm
  have hn := h.d.hi
  have hz := h.zero k r h1 h2
  unfold Dk.chk
  rw [if_pos ⟨rfl, by omega, by omega, by omega⟩]
  unfold Tb.chk
  rw [if_neg (by omega), Int.toNat_natCast, if_neg (fun e => hz ⟨e.1, by omega⟩)]
theorem Lw.Ok.rg (h : S.Ok j) {k : Nat} {r : Nat × Nat} (h1 : S.L[k]? = some r) : r.1 ≤ 63 ∧ r.2 ≤ 4294967295 := by
  have hw := h.was r (List.mem_of_getElem? h1)
  have h2 := h.d.hi
  have h3 := h.d.t.gm r.1
  obtain ⟨h4, h5⟩ := hw
  omega
/-- A lease is granted. -/
theorem Lw.Ok.took (h : S.Ok j) {i : Nat} {q : List Nat} (hf : S.D.t.free = i :: q) {y : Nat} (hy1 : 0 < y) (hy2 : y ≤ 7 * (j + 1) + 16) (hlt : y ≤ 1099511627776) (hll : S.L.length ≤ j) {t : Nat} (hnow : t ≤ 7 * (j + 1)) :
    Lw.Ok ⟨S.D.took i y, S.L ++ [(i, S.D.t.g i)], S.U ++ [y], t⟩ (j + 1) := by
  obtain ⟨f1, f2⟩ := Tb.free_lt hf
  have hns : ∀ (k : Nat) (r : Nat × Nat), S.L[k]? = some r → r.1 = i → S.U[k]? = some 0 ∧ r.2 < S.D.t.g i := fun k r hk e => by
    have hm := List.mem_of_getElem? hk
    have hk1 : k < S.U.length := by rw [← h.len]; exact (List.getElem?_eq_some_iff.1 hk).1
    obtain ⟨w1, w2⟩ := h.was r hm
    rw [e] at w2
    have hu : S.U[k]? = some S.U[k] := List.getElem?_eq_getElem hk1
    refine ⟨?_, by omega⟩
    rcases Nat.eq_zero_or_pos S.U[k] with c | c
    · rw [hu, c]
    · have := (h.pos k r _ hk hu c).1
      rw [e] at this; omega
  have hput : ∀ r : Nat × Nat, r.1 ≠ i → put S.D.t.s i 1 r.1 = S.D.t.s r.1 ∧ put S.D.u i y r.1 = S.D.u r.1 := fun r e => ⟨put_other e, put_other e⟩
  refine ⟨h.d.took i hlt, by simp [h.len], ?_, ?_, ?_, ?_, ?_, ?_, hnow, by simp; omega, ?_⟩
  · rw [List.nodup_append]
    refine ⟨h.nodup, by simp, fun a ha b hb => ?_⟩
    simp only [List.mem_singleton] at hb
    subst hb
    rintro rfl
    obtain ⟨k, hk⟩ := List.getElem?_of_mem ha
    have := (hns k _ hk rfl).2
    simp at this
  · intro r hr
    rcases List.mem_append.1 hr with hr | hr
    · exact (h.was r hr).took i
    · simp only [List.mem_singleton] at hr
      subst hr
      exact ⟨f1, .inr ⟨rfl, by show put S.D.t.s i 1 i ≠ 0; rw [put_same]; omega⟩⟩
  · intro r hr
    rcases List.mem_append.1 hr with hr | hr
    · exact h.g1 r hr
    · simp only [List.mem_singleton] at hr
      subst hr
      exact h.d.t.g1 i f1
  · intro k r hk hu
    simp only [List.getElem?_append] at hk hu
    by_cases c : k < S.L.length
    · rw [if_pos c] at hk
      rw [if_pos (by rw [← h.len]; exact c)] at hu
      have hz := h.zero k r hk hu
      show ¬ (put S.D.t.s i 1 r.1 = 1 ∧ S.D.t.g r.1 = r.2)
      by_cases e : r.1 = i
      · have := (hns k r hk e).2
        rw [e]; omega
      · rw [(hput r e).1]; exact hz
    · rw [if_neg (by rw [← h.len]; exact c)] at hu
      have : k - S.U.length < 1 := by have := (List.getElem?_eq_some_iff.1 hu).1; simpa using this
      rw [show k - S.U.length = 0 by omega] at hu
      simp at hu; omega
  · intro k r u hk hu h0
    simp only [List.getElem?_append] at hk hu
    show put S.D.t.s i 1 r.1 = 1 ∧ S.D.t.g r.1 = r.2 ∧ put S.D.u i y r.1 = u
    by_cases c : k < S.L.length
    · rw [if_pos c] at hk
      rw [if_pos (by rw [← h.len]; exact c)] at hu
      by_cases e : r.1 = i
      · have := (hns k r hk e).1
        rw [this] at hu; simp at hu; omega
      · rw [(hput r e).1, (hput r e).2]; exact h.pos k r u hk hu h0
    · rw [if_neg c] at hk
      rw [if_neg (by rw [← h.len]; exact c)] at hu
      have hk0 : k - S.L.length < 1 := by have := (List.getElem?_eq_some_iff.1 hk).1; simpa using this
      rw [show k - S.L.length = 0 by omega] at hk
      rw [show k - S.U.length = 0 by have := h.len; omega] at hu
      simp at hk hu
      subst hk hu
      exact ⟨put_same _ _ _, rfl, put_same _ _ _⟩
  · show cntP (S.U ++ [y]) = (sel (put S.D.t.s i 1) 1 S.D.t.n).length
    have h1 := sel_put_len (f := S.D.t.s) (v := 1) (u := 1) f1
    have h2 := h.cnt
    rw [cntP_snoc, if_pos hy1]
    rw [if_neg (by omega)] at h1
    unfold Tb.held at h2
    simp at h1
    omega
  · intro k u hu
    simp only [List.getElem?_append] at hu
    by_cases c : k < S.U.length
    · rw [if_pos c] at hu
      have := h.uu k u hu; omega
    · rw [if_neg c] at hu
      have : k - S.U.length < 1 := by have := (List.getElem?_eq_some_iff.1 hu).1; simpa using this
      rw [show k - S.U.length = 0 by omega] at hu
      simp at hu; omega
/-- What is granted is new. -/
theorem Lw.Ok.newly (h : S.Ok j) {i : Nat} {q : List Nat} (hf : S.D.t.free = i :: q) : (i, S.D.t.g i) ∉ S.L := fun hm => by
  obtain ⟨_, f2⟩ := Tb.free_lt hf
  obtain ⟨_, w2⟩ := h.was _ hm
  simp only at w2
  omega
/-- Another place has another slot, where both are there. -/
theorem Lw.Ok.apart (h : S.Ok j) {k k' u u' : Nat} {r r' : Nat × Nat} (h1 : S.L[k]? = some r) (h2 : S.U[k]? = some u) (h3 : 0 < u) (h1' : S.L[k']? = some r') (h2' : S.U[k']? = some u') (h3' : 0 < u') (hne : k' ≠ k) : r'.1 ≠ r.1 := by
  intro e
  have a := h.pos k r u h1 h2 h3
  have b := h.pos k' r' u' h1' h2' h3'
  have hrr : r' = r := Prod.ext e (by rw [← b.2.1, ← a.2.1, e])
  subst hrr
  obtain ⟨l1, e1⟩ := List.getElem?_eq_some_iff.1 h1
  obtain ⟨l2, e2⟩ := List.getElem?_eq_some_iff.1 h1'
  have hp := List.pairwise_iff_getElem.1 h.nodup
  rcases Nat.lt_or_gt_of_ne hne with c | c
  · exact hp k' k l2 l1 c (e2.trans e1.symm)
  · exact hp k k' l1 l2 c (e1.trans e2.symm)
/-- A lease that is there is renewed. -/
theorem Lw.Ok.renew (h : S.Ok j) {k u : Nat} {r : Nat × Nat} (h1 : S.L[k]? = some r) (h2 : S.U[k]? = some u) (h3 : 0 < u) {y : Nat} (hy1 : 0 < y) (hy2 : y ≤ 7 * j + 16) (hlt : y ≤ 1099511627776) :
    Lw.Ok ⟨S.D.until r.1 y, S.L, S.U.set k y, S.now⟩ j := by
  have hk := (List.getElem?_eq_some_iff.1 h2).1
  have hset : ∀ (k' u' : Nat), (S.U.set k y)[k']? = some u' → (k' = k ∧ u' = y) ∨ (k' ≠ k ∧ S.U[k']? = some u') := fun k' u' hu => by
    by_cases e : k' = k
    · subst e
      rw [List.getElem?_set_self hk] at hu
      exact .inl ⟨rfl, (Option.some.inj hu).symm⟩
    · rw [List.getElem?_set_ne (fun c => e c.symm)] at hu
      exact .inr ⟨e, hu⟩
  refine ⟨h.d.until _ hlt, by simp [h.len], h.nodup, h.was, h.g1, fun k' r' hk' hu' => ?_, fun k' r' u' hk' hu' h0 => ?_, ?_, h.now, h.ll, fun k' u' hu' => ?_⟩
  · rcases hset k' 0 hu' with ⟨_, e⟩ | ⟨_, e⟩
    · omega
    · exact h.zero k' r' hk' e
  · show S.D.t.s r'.1 = 1 ∧ S.D.t.g r'.1 = r'.2 ∧ put S.D.u r.1 y r'.1 = u'
    rcases hset k' u' hu' with ⟨rfl, rfl⟩ | ⟨e1, e⟩
    · obtain rfl : r' = r := Option.some.inj (hk'.symm.trans h1)
      have a := h.pos k' r' u h1 h2 h3
      exact ⟨a.1, a.2.1, put_same _ _ _⟩
    · have a := h.pos k' r' u' hk' e h0
      exact ⟨a.1, a.2.1, by rw [put_other (h.apart h1 h2 h3 hk' e h0 e1)]; exact a.2.2⟩
  · show cntP (S.U.set k y) = S.D.t.held.length
    have := cntP_set y h2
    rw [if_pos h3, if_pos hy1] at this
    have := h.cnt
    omega
  · rcases hset k' u' hu' with ⟨rfl, rfl⟩ | ⟨_, e⟩
    · exact hy2
    · exact h.uu k' u' e
/-- A lease that is there is returned. -/
theorem Lw.Ok.ret (h : S.Ok j) {k u : Nat} {r : Nat × Nat} (h1 : S.L[k]? = some r) (h2 : S.U[k]? = some u) (h3 : 0 < u) :
    Lw.Ok ⟨S.D.give r.1, S.L, S.U.set k 0, S.now⟩ j := by
  have hk := (List.getElem?_eq_some_iff.1 h2).1
  have hset : ∀ (k' u' : Nat), (S.U.set k 0)[k']? = some u' → (k' = k ∧ u' = 0) ∨ (k' ≠ k ∧ S.U[k']? = some u') := fun k' u' hu => by
    by_cases e : k' = k
    · subst e
      rw [List.getElem?_set_self hk] at hu
      exact .inl ⟨rfl, (Option.some.inj hu).symm⟩
    · rw [List.getElem?_set_ne (fun c => e c.symm)] at hu
      exact .inr ⟨e, hu⟩
  have a := h.pos k r u h1 h2 h3
  have hin := (h.was r (List.mem_of_getElem? h1)).1
  refine ⟨h.d.give _, by simp [h.len], h.nodup, fun r' hr' => (h.was r' hr').gave a.1, h.g1, fun k' r' hk' hu' => ?_, fun k' r' u' hk' hu' h0 => ?_, ?_, h.now, h.ll, fun k' u' hu' => ?_⟩
  · show ¬ ((S.D.t.gave r.1).s r'.1 = 1 ∧ (S.D.t.gave r.1).g r'.1 = r'.2)
    by_cases e : r'.1 = r.1
    · rw [e]; exact fun c => gave_s_ne _ _ c.1
    · rw [gave_s_other e, gave_g_other e]
      rcases hset k' 0 hu' with ⟨rfl, _⟩ | ⟨_, e2⟩
      · obtain rfl : r' = r := Option.some.inj (hk'.symm.trans h1)
        exact absurd rfl e
      · exact h.zero k' r' hk' e2
  · show (S.D.t.gave r.1).s r'.1 = 1 ∧ (S.D.t.gave r.1).g r'.1 = r'.2 ∧ S.D.u r'.1 = u'
    rcases hset k' u' hu' with ⟨_, e⟩ | ⟨e1, e⟩
    · omega
    · have hne := h.apart h1 h2 h3 hk' e h0 e1
      rw [gave_s_other hne, gave_g_other hne]
      exact h.pos k' r' u' hk' e h0
  · show cntP (S.U.set k 0) = (S.D.t.gave r.1).held.length
    have c1 := cntP_set 0 h2
    rw [if_pos h3, if_neg (by omega)] at c1
    have c2 := h.cnt
    have c3 : (S.D.t.gave r.1).held.length + 1 = S.D.t.held.length := by
      have key : ∀ v, v ≠ 1 → (sel (put S.D.t.s r.1 v) 1 S.D.t.n).length + 1 = (sel S.D.t.s 1 S.D.t.n).length := fun v hv => by
        have := sel_put_len (f := S.D.t.s) (v := 1) (u := v) hin
        rw [if_pos a.1, if_neg hv] at this
        omega
      unfold Tb.gave Tb.held
      split
      · exact key 2 (by decide)
      · exact key 0 (by decide)
    omega
  · rcases hset k' u' hu' with ⟨_, rfl⟩ | ⟨_, e⟩
    · omega
    · exact h.uu k' u' e
theorem Lw.set_zero (S : Lw) {k : Nat} (h2 : S.U[k]? = some 0) : S.U.set k 0 = S.U := by
  obtain ⟨hk, e⟩ := List.getElem?_eq_some_iff.1 h2
  rw [← e]; exact List.set_getElem_self hk
end
theorem fresh_held (n g : Nat) : (fresh n g).held = [] := by simp [Tb.held, fresh, sel]
theorem Lw.Ok.begin {n g : Nat} (h1 : 1 ≤ n) (h2 : n ≤ 64) (h3 : 1 ≤ g) (h4 : g ≤ 4294967295) : Lw.Ok ⟨dfresh n g, [], [], 0⟩ 0 :=
  ⟨dfresh_ok h1 h2 h3 h4, rfl, List.nodup_nil, (fun r h => by cases h), (fun r h => by cases h), (fun k r h => by simp at h), (fun k r u h => by simp at h), by show cntP [] = (fresh n g).held.length; rw [fresh_held]; rfl, by simp, by simp, (fun k u h => by simp at h)⟩
end Go.Proofs.Ytfemfgpciogbeaa
