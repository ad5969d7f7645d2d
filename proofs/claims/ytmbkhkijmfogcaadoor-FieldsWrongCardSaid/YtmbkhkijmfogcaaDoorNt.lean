/- What the document's Parse of objects does, word by word: mathematics alone. -/
import Derived.Test.YtmbkhkijmfogcaaDoorNs
namespace Go.Proofs.YtmbkhkijmfogcaaDoor
open Go.RowKit

/-- Nothing, or what begins with a space. -/
def SpB (l : List UInt8) : Prop := l = [] ∨ ∃ t, l = 32 :: t
theorem joined_spb (l : List (List UInt8)) : SpB (joined l) := by
  cases l with
  | nil => exact .inl rfl
  | cons w l => exact .inr ⟨_, rfl⟩
theorem SpB.behind {R : List UInt8} (h : SpB R) (l : List (List UInt8)) : SpB (joined l ++ R) := by
  cases l with
  | nil => simpa [joined] using h
  | cons w l => exact .inr ⟨_, rfl⟩
theorem word_cut : ∀ {w v T U : List UInt8}, (∀ x ∈ w, x ≠ 32) → (∀ x ∈ v, x ≠ 32) → SpB T → SpB U → w ++ T = v ++ U → w = v ∧ T = U
  | [], [], _, _, _, _, _, _, e => ⟨rfl, e⟩
  | [], y :: v, T, U, _, hv, hT, _, e => by
    rcases hT with rfl | ⟨t, rfl⟩
    · simp at e
    · simp only [List.nil_append, List.cons_append, List.cons.injEq] at e
      exact absurd e.1.symm (hv y (by simp))
  | x :: w, [], T, U, hw, _, _, hU, e => by
    rcases hU with rfl | ⟨t, rfl⟩
    · simp at e
    · simp only [List.nil_append, List.cons_append, List.cons.injEq] at e
      exact absurd e.1 (hw x (by simp))
  | x :: w, y :: v, T, U, hw, hv, hT, hU, e => by
    simp only [List.cons_append, List.cons.injEq] at e
    have := word_cut (fun z hz => hw z (by simp [hz])) (fun z hz => hv z (by simp [hz])) hT hU e.2
    exact ⟨by rw [e.1, this.1], this.2⟩
theorem joined_pre : ∀ {l m : List (List UInt8)} {R : List UInt8}, NoSp l → NoSp m → SpB R → joined l ++ R = joined m → ∃ V, m = l ++ V ∧ R = joined V
  | [], m, R, _, _, _, e => ⟨m, rfl, by simpa [joined] using e⟩
  | w :: l, [], R, _, _, _, e => by simp [joined] at e
  | w :: l, v :: m, R, hl, hm, hR, e => by
    simp only [joined, List.cons_append, List.cons.injEq, List.append_assoc] at e
    obtain ⟨e1, e2⟩ := word_cut (hl w (by simp)) (hm v (by simp)) (hR.behind l) (joined_spb m) e.2
    obtain ⟨V, h1, h2⟩ := joined_pre (fun z hz => hl z (by simp [hz])) (fun z hz => hm z (by simp [hz])) hR e2
    exact ⟨V, by rw [e1, h1]; rfl, h2⟩

/-- One field more. -/
def Ob.push (o : Ob) (k : Nat) (r : Rf) : Ob := { o.upd r k with n := (k : Int) + 1 }
theorem push_n (o : Ob) (k : Nat) (r : Rf) : (o.push k r).n = (k : Int) + 1 := rfl
theorem push_h (o : Ob) (k : Nat) (r : Rf) : (o.push k r).h = o.h := (upd_n o r k).2
theorem push_fld (o : Ob) (k : Nat) (r : Rf) (j : Nat) : (o.push k r).fld j = (o.upd r k).fld j := by
  match j with
  | 0 => rfl
  | 1 => rfl
  | 2 => rfl
  | _ + 3 => rfl
theorem push_poss {o : Ob} (h : Poss o) (hh : o.h = false) {k : Nat} (hk : o.n = k) (hk4 : k < 4) {r : Rf} (hr : RfOk r) : Poss (o.push k r) := by
  refine ⟨by rw [push_n]; omega, by rw [push_n]; omega, (by rw [push_h, hh]; intro e; cases e), fun j hj => ?_, fun j hj hn => ?_⟩
  · rw [push_fld]
    by_cases e : j = k
    · subst e; rw [upd_same]; exact hr
    · rw [upd_ne _ _ _ _ hk4 hj e]; exact h.ok j hj
  · rw [push_n] at hn
    rw [push_fld, upd_ne _ _ _ _ hk4 hj (by omega)]
    exact h.em j hj (by omega)
theorem push_words {o : Ob} (h : Poss o) {k : Nat} (hk : o.n = k) (hk4 : k < 4) {r : Rf} : words (o.push k r) = words o ++ [rtxt r] := by
  have hw := words_len h
  apply List.ext_getElem?
  intro j
  have hlen : (words (o.push k r)).length = k + 1 := by
    unfold words
    rw [List.length_map, List.length_take, push_n]
    show min ((k : Int) + 1).toNat 4 = _
    omega
  by_cases hj : j < k
  · rw [words_at (by rw [push_n]; omega) (by omega), push_fld, upd_ne _ _ _ _ hk4 (by omega) (by omega), List.getElem?_append_left (by rw [hw, hk]; omega), words_at (by omega) (by omega)]
  · by_cases e : j = k
    · subst e
      rw [words_at (by rw [push_n]; omega) hk4, push_fld, upd_same, List.getElem?_append_right (by rw [hw, hk]; omega), hw, hk]
      simp
    · rw [List.getElem?_eq_none (by omega), List.getElem?_eq_none (by rw [List.length_append, hw, hk]; simp; omega)]

/-- What has been read, and what is left. -/
def Pst (s : List UInt8) (q : Ob) (R : List UInt8) : Prop := Poss q ∧ q.h = false ∧ s = objW ++ joined (words q) ++ R ∧ (q.n = 0 ∨ SpB R)
theorem otxt_no {p : Ob} (h : p.h = false) : otxt p = objW ++ joined (words p) := by unfold otxt; rw [h]; rfl
theorem otxt_pre {p : Ob} {t : List UInt8} (h : otxt p = objW ++ t) : p.h = false := by
  refine otxt_object ?_
  rw [h]
  simp [objW, hndW]
theorem Pst.rest {s : List UInt8} {q : Ob} {R : List UInt8} (h : Pst s q R) {p : Ob} (_ : Poss p) (e : s = otxt p) : ∃ V, words p = words q ++ V ∧ R = joined V := by
  obtain ⟨h1, h2, h3, h4⟩ := h
  have hh : p.h = false := otxt_pre (t := joined (words q) ++ R) (by rw [← e, h3]; simp)
  rw [e, otxt_no hh, List.append_assoc] at h3
  have h5 := List.append_cancel_left h3
  rcases h4 with h4 | h4
  · have : words q = [] := List.eq_nil_of_length_eq_zero (by rw [words_len h1, h4]; rfl)
    rw [this] at h5 ⊢
    exact ⟨words p, rfl, by simpa [joined] using h5.symm⟩
  · exact joined_pre (words_nosp q) (words_nosp p) h4 h5.symm
theorem Pst.begin {s t : List UInt8} (h : s = objW ++ t) : Pst s ob0 t := by
  have hp : Poss ob0 := mk_poss (n := 0) (h := false) (by decide) (by decide) (fun e => by cases e)
  exact ⟨hp, rfl, by rw [h]; rfl, .inl rfl⟩
theorem Pst.done {s : List UInt8} {q : Ob} (h : Pst s q []) : parseR s = (q, 0) := by
  obtain ⟨h1, h2, h3, _⟩ := h
  rw [List.append_nil, ← otxt_no h2] at h3
  rw [h3, parse_ok' h1]
theorem Pst.nospace {s : List UInt8} {q : Ob} {c : UInt8} {R : List UInt8} (h : Pst s q (c :: R)) (hc : c ≠ 32) : NoObj s := fun p hp e => by
  obtain ⟨V, _, h2⟩ := h.rest hp e
  cases V with
  | nil => simp [joined] at h2
  | cons v V =>
    simp only [joined, List.cons.injEq] at h2
    exact hc h2.1
theorem Pst.full {s : List UInt8} {q : Ob} {c : UInt8} {R : List UInt8} (h : Pst s q (c :: R)) (hn : q.n = 4) : NoObj s := fun p hp e => by
  obtain ⟨V, h1, h2⟩ := h.rest hp e
  have := congrArg List.length h1
  rw [List.length_append, words_len hp, words_len h.1, hn] at this
  have := hp.n4
  have : V = [] := List.eq_nil_of_length_eq_zero (by omega)
  subst this
  simp [joined] at h2
theorem Pst.wrong {s : List UInt8} {q : Ob} {w R : List UInt8} (h : Pst s q (32 :: (w ++ R))) (hw : ∀ x ∈ w, x ≠ 32) (hR : SpB R) (hr : ∀ r, RfOk r → w ≠ rtxt r) : NoObj s := fun p hp e => by
  obtain ⟨V, h1, h2⟩ := h.rest hp e
  cases V with
  | nil => simp [joined] at h2
  | cons v V =>
    simp only [joined, List.cons.injEq, true_and] at h2
    have hv : v ∈ words p := by rw [h1]; simp
    obtain ⟨e1, _⟩ := word_cut hw (words_nosp p v hv) hR (joined_spb V) h2
    unfold words at hv
    rw [List.mem_map] at hv
    obtain ⟨r, hr1, hr2⟩ := hv
    have hr1 := List.mem_of_mem_take hr1
    obtain ⟨j, hj, e3⟩ := List.getElem_of_mem hr1
    have hj4 : j < 4 := hj
    have := fs_at p j hj4
    rw [List.getElem?_eq_getElem hj, e3] at this
    rw [Option.some.inj this] at hr2
    exact hr _ (hp.ok j hj4) (e1.trans hr2.symm)
theorem Pst.next {s : List UInt8} {q : Ob} {w R : List UInt8} (h : Pst s q (32 :: (w ++ R))) (hR : SpB R) {k : Nat} (hk : q.n = k) (hk4 : k < 4) {r : Rf} (hr : RfOk r) (hw : w = rtxt r) : Pst s (q.push k r) R := by
  obtain ⟨h1, h2, h3, _⟩ := h
  refine ⟨push_poss h1 h2 hk hk4 hr, by rw [push_h, h2], ?_, .inr hR⟩
  rw [h3, push_words h1 hk hk4, joined_snoc, hw]
  simp
theorem noobj_short {l : List UInt8} (h : l.length < 6) : NoObj l := fun p hp e => by
  have := (otxt_len hp).1
  rw [← e] at this
  omega
theorem noobj_other {l : List UInt8} (h1 : l ≠ hndW) (h2 : l.take 6 ≠ objW) : NoObj l := fun p _ e => by
  have hh : p.h = false := otxt_object (by rw [← e]; exact h1)
  rw [e, otxt_no hh] at h2
  exact h2 (by simp [objW])
end Go.Proofs.YtmbkhkijmfogcaaDoor
