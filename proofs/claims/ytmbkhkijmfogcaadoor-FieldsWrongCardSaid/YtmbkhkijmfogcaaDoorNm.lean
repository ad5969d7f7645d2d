/- Objects by their numbers, what each call of them comes to, and their texts: plain mathematics, nothing of the program. -/
import Derived.Test.YtmbkhkijmfogcaaDoorDn
import Derived.Lib.SplitLaws
namespace Go.Proofs.YtmbkhkijmfogcaaDoor
open Go.Lib

/-- A reference by its numbers. -/
abbrev Rf := Int × Int
/-- An object by its numbers. -/
structure Ob where
  n : Int
  a : Rf
  b : Rf
  c : Rf
  d : Rf
  h : Bool
/-- The zero object. -/
def ob0 : Ob := ⟨0, (0, 0), (0, 0), (0, 0), (0, 0), false⟩

def Ob.fld (o : Ob) : Nat → Rf
  | 0 => o.a
  | 1 => o.b
  | 2 => o.c
  | _ => o.d
def Ob.upd (o : Ob) (r : Rf) : Nat → Ob
  | 0 => { o with a := r }
  | 1 => { o with b := r }
  | 2 => { o with c := r }
  | _ => { o with d := r }
def Ob.fs (o : Ob) : List Rf := [o.a, o.b, o.c, o.d]

theorem fs_at (o : Ob) (j : Nat) (hj : j < 4) : o.fs[j]? = some (o.fld j) := by
  match j, hj with
  | 0, _ => rfl
  | 1, _ => rfl
  | 2, _ => rfl
  | 3, _ => rfl
theorem upd_same (o : Ob) (r : Rf) (j : Nat) : (o.upd r j).fld j = r := by
  match j with
  | 0 => rfl
  | 1 => rfl
  | 2 => rfl
  | _ + 3 => rfl
theorem upd_ne (o : Ob) (r : Rf) (j k : Nat) (hj : j < 4) (hk : k < 4) (h : k ≠ j) : (o.upd r j).fld k = o.fld k := by
  match j, k, hj, hk with
  | 0, 0, _, _ => exact absurd rfl h
  | 0, 1, _, _ => rfl
  | 0, 2, _, _ => rfl
  | 0, 3, _, _ => rfl
  | 1, 0, _, _ => rfl
  | 1, 1, _, _ => exact absurd rfl h
  | 1, 2, _, _ => rfl
  | 1, 3, _, _ => rfl
  | 2, 0, _, _ => rfl
  | 2, 1, _, _ => rfl
  | 2, 2, _, _ => exact absurd rfl h
  | 2, 3, _, _ => rfl
  | 3, 0, _, _ => rfl
  | 3, 1, _, _ => rfl
  | 3, 2, _, _ => rfl
  | 3, 3, _, _ => exact absurd rfl h
theorem upd_n (o : Ob) (r : Rf) (j : Nat) : (o.upd r j).n = o.n ∧ (o.upd r j).h = o.h := by
  match j with
  | 0 => exact ⟨rfl, rfl⟩
  | 1 => exact ⟨rfl, rfl⟩
  | 2 => exact ⟨rfl, rfl⟩
  | _ + 3 => exact ⟨rfl, rfl⟩
theorem Ob.same {o p : Ob} (hn : o.n = p.n) (hh : o.h = p.h) (hf : ∀ j, j < 4 → o.fld j = p.fld j) : o = p := by
  obtain ⟨n, a, b, c, d, h⟩ := o
  obtain ⟨n', a', b', c', d', h'⟩ := p
  have h0 := hf 0 (by omega)
  have h1 := hf 1 (by omega)
  have h2 := hf 2 (by omega)
  have h3 := hf 3 (by omega)
  simp only [Ob.fld] at h0 h1 h2 h3 hn hh
  subst hn hh h0 h1 h2 h3
  rfl
theorem upd_back (o : Ob) (r : Rf) (j : Nat) (hj : j < 4) : (o.upd r j).upd (o.fld j) j = o := by
  refine Ob.same ?_ ?_ fun k hk => ?_
  · rw [(upd_n _ _ _).1, (upd_n _ _ _).1]
  · rw [(upd_n _ _ _).2, (upd_n _ _ _).2]
  · by_cases h : k = j
    · subst h; rw [upd_same]
    · rw [upd_ne _ _ _ _ hj hk h, upd_ne _ _ _ _ hj hk h]

/-- None, or possible. -/
def RfOk (r : Rf) : Prop := r = (0, 0) ∨ (0 ≤ r.1 ∧ r.1 < 256 ∧ 0 < r.2 ∧ r.2 ≤ 4294967295)
/-- What the types hold. -/
def Rr (r : Rf) : Prop := -9223372036854775808 ≤ r.1 ∧ r.1 ≤ 9223372036854775807 ∧ 0 ≤ r.2 ∧ r.2 ≤ 4294967295
structure Rg (o : Ob) : Prop where
  n1 : -9223372036854775808 ≤ o.n
  n2 : o.n ≤ 9223372036854775807
  f : ∀ j, j < 4 → Rr (o.fld j)
/-- An object is possible. -/
structure Poss (o : Ob) : Prop where
  n0 : 0 ≤ o.n
  n4 : o.n ≤ 4
  hh : o.h = true → o.n = 0
  ok : ∀ j, j < 4 → RfOk (o.fld j)
  em : ∀ j : Nat, j < 4 → o.n ≤ j → o.fld j = (0, 0)

theorem RfOk.rr {r : Rf} (h : RfOk r) : Rr r := by
  rcases h with rfl | ⟨h1, h2, h3, h4⟩
  · exact ⟨by decide, by decide, by decide, by decide⟩
  · exact ⟨by omega, by omega, by omega, by omega⟩
theorem Poss.rg {o : Ob} (h : Poss o) : Rg o := ⟨by have := h.n0; omega, by have := h.n4; omega, fun j hj => (h.ok j hj).rr⟩
theorem rfok_none : RfOk (0, 0) := .inl rfl
theorem rg0 : Rg ob0 := ⟨by decide, by decide, fun j hj => by
  match j, hj with
  | 0, _ => exact rfok_none.rr
  | 1, _ => exact rfok_none.rr
  | 2, _ => exact rfok_none.rr
  | 3, _ => exact rfok_none.rr⟩
theorem Rg.upd {o : Ob} (h : Rg o) {r : Rf} (hr : Rr r) {j : Nat} (hj : j < 4) : Rg (o.upd r j) := by
  refine ⟨by rw [(upd_n _ _ _).1]; exact h.n1, by rw [(upd_n _ _ _).1]; exact h.n2, fun k hk => ?_⟩
  by_cases e : k = j
  · subst e; rw [upd_same]; exact hr
  · rw [upd_ne _ _ _ _ hj hk e]; exact h.f k hk
theorem Poss.upd {o : Ob} (h : Poss o) {r : Rf} (hr : RfOk r) {j : Nat} (hj : (j : Int) < o.n) : Poss (o.upd r j) := by
  have hj4 : j < 4 := by have := h.n4; omega
  refine ⟨by rw [(upd_n _ _ _).1]; exact h.n0, by rw [(upd_n _ _ _).1]; exact h.n4, by rw [(upd_n _ _ _).1, (upd_n _ _ _).2]; exact h.hh, fun k hk => ?_, fun k hk hn => ?_⟩
  · by_cases e : k = j
    · subst e; rw [upd_same]; exact hr
    · rw [upd_ne _ _ _ _ hj4 hk e]; exact h.ok k hk
  · rw [(upd_n _ _ _).1] at hn
    rw [upd_ne _ _ _ _ hj4 hk (by omega)]
    exact h.em k hk hn

/-! What the calls come to. -/
open Classical in
noncomputable def chk (o : Ob) : Int := if Poss o then 0 else 2
theorem chk_ok {o : Ob} (h : Poss o) : chk o = 0 := by unfold chk; rw [if_pos h]
theorem chk_bad {o : Ob} (h : ¬ Poss o) : chk o = 2 := by unfold chk; rw [if_neg h]
open Classical in
noncomputable def getR (o : Ob) (i : Int) : Rf × Int := if Poss o then (if 0 ≤ i ∧ i < o.n then (o.fld i.toNat, 0) else ((0, 0), 3)) else ((0, 0), 2)
theorem get_ok {o : Ob} (h : Poss o) {i : Int} (hi : 0 ≤ i ∧ i < o.n) : getR o i = (o.fld i.toNat, 0) := by unfold getR; rw [if_pos h, if_pos hi]
theorem get_out {o : Ob} (h : Poss o) {i : Int} (hi : i < 0 ∨ o.n ≤ i) : getR o i = ((0, 0), 3) := by unfold getR; rw [if_pos h, if_neg (by omega)]
theorem get_bad {o : Ob} (h : ¬ Poss o) (i : Int) : getR o i = ((0, 0), 2) := by unfold getR; rw [if_neg h]
open Classical in
noncomputable def setR (o : Ob) (i : Int) (r : Rf) : Ob × Rf × Int := if Poss o ∧ RfOk r then (if 0 ≤ i ∧ i < o.n then (o.upd r i.toNat, o.fld i.toNat, 0) else (ob0, (0, 0), 3)) else (ob0, (0, 0), 2)
theorem set_ok {o : Ob} (h : Poss o) {r : Rf} (hr : RfOk r) {i : Int} (hi : 0 ≤ i ∧ i < o.n) : setR o i r = (o.upd r i.toNat, o.fld i.toNat, 0) := by unfold setR; rw [if_pos ⟨h, hr⟩, if_pos hi]
theorem set_out {o : Ob} (h : Poss o) {r : Rf} (hr : RfOk r) {i : Int} (hi : i < 0 ∨ o.n ≤ i) : setR o i r = (ob0, (0, 0), 3) := by unfold setR; rw [if_pos ⟨h, hr⟩, if_neg (by omega)]
theorem set_bad {o : Ob} {r : Rf} (h : ¬ Poss o ∨ ¬ RfOk r) (i : Int) : setR o i r = (ob0, (0, 0), 2) := by
  unfold setR
  rw [if_neg (fun hh => h.elim (fun h => h hh.1) (fun h => h hh.2))]
def mk (n : Int) (h : Bool) : Ob := ⟨n, (0, 0), (0, 0), (0, 0), (0, 0), h⟩
open Classical in
noncomputable def newR (n : Int) (h : Bool) : Ob × Int := if Poss (mk n h) then (mk n h, 0) else (ob0, 2)
theorem new_ok {n : Int} {h : Bool} (hp : Poss (mk n h)) : newR n h = (mk n h, 0) := by unfold newR; rw [if_pos hp]
theorem new_bad {n : Int} {h : Bool} (hp : ¬ Poss (mk n h)) : newR n h = (ob0, 2) := by unfold newR; rw [if_neg hp]
theorem mk_fld (n : Int) (h : Bool) (j : Nat) : (mk n h).fld j = (0, 0) := by
  match j with
  | 0 => rfl
  | 1 => rfl
  | 2 => rfl
  | _ + 3 => rfl
theorem mk_poss {n : Int} {h : Bool} (h0 : 0 ≤ n) (h4 : n ≤ 4) (hh : h = true → n = 0) : Poss (mk n h) :=
  ⟨h0, h4, hh, fun j _ => by rw [mk_fld]; exact rfok_none, fun j _ _ => mk_fld n h j⟩
/-- The fields that are not empty. -/
def refs (o : Ob) : List Rf := o.fs.filter (fun r => r != (0, 0))

/-! Texts. -/
def rtxt (r : Rf) : List UInt8 := if r = (0, 0) then [45] else decDigits r.1.toNat ++ 46 :: decDigits r.2.toNat
def joined : List (List UInt8) → List UInt8
  | [] => []
  | w :: l => 32 :: (w ++ joined l)
def words (o : Ob) : List (List UInt8) := (o.fs.take o.n.toNat).map rtxt
def objW : List UInt8 := [111, 98, 106, 101, 99, 116]
def hndW : List UInt8 := [104, 97, 110, 100, 108, 101]
def otxt (o : Ob) : List UInt8 := if o.h then hndW else objW ++ joined (words o)

theorem rtxt_none : rtxt (0, 0) = [45] := rfl
theorem rtxt_some {r : Rf} (h : r ≠ (0, 0)) : rtxt r = decDigits r.1.toNat ++ 46 :: decDigits r.2.toNat := by unfold rtxt; rw [if_neg h]
theorem dot_mem (a b : Nat) : (46 : UInt8) ∈ decDigits a ++ 46 :: decDigits b := by simp
theorem rtxt_inj {r s : Rf} (hr : RfOk r) (hs : RfOk s) (e : rtxt r = rtxt s) : r = s := by
  by_cases h1 : r = (0, 0)
  · by_cases h2 : s = (0, 0)
    · rw [h1, h2]
    · rw [h1, rtxt_none, rtxt_some h2] at e
      have := dot_mem s.1.toNat s.2.toNat
      rw [← e] at this
      exact absurd this (by decide)
  · by_cases h2 : s = (0, 0)
    · rw [h2, rtxt_none, rtxt_some h1] at e
      have := dot_mem r.1.toNat r.2.toNat
      rw [e] at this
      exact absurd this (by decide)
    · rw [rtxt_some h1, rtxt_some h2] at e
      obtain ⟨e1, e2⟩ := split_eq (digit_ne (.inl rfl) _) (digit_ne (.inl rfl) _) e
      have e1 := digits_inj e1
      have e2 := digits_inj e2
      rcases hr with hr | hr
      · exact absurd hr h1
      rcases hs with hs | hs
      · exact absurd hs h2
      exact Prod.ext (by omega) (by omega)
theorem rtxt_nospace (r : Rf) : ∀ x ∈ rtxt r, x ≠ 32 := by
  rintro x hx rfl
  unfold rtxt at hx
  split at hx
  · exact absurd hx (by decide)
  · rw [List.mem_append, List.mem_cons] at hx
    rcases hx with hx | hx | hx
    · have := digits_mem _ _ hx; simp at this
    · exact absurd hx (by decide)
    · have := digits_mem _ _ hx; simp at this
theorem rtxt_len {r : Rf} (hr : RfOk r) : 1 ≤ (rtxt r).length ∧ (rtxt r).length ≤ 21 := by
  by_cases h1 : r = (0, 0)
  · rw [h1, rtxt_none]; decide
  · rw [rtxt_some h1]
    rcases hr with hr | hr
    · exact absurd hr h1
    have a := digits_len r.1.toNat (by omega)
    have b := digits_len r.2.toNat (by omega)
    simp only [List.length_append, List.length_cons]
    omega

/-- A word ends where the next space, or the end, is. -/
theorem word_inj : ∀ {w v : List UInt8} {l m : List (List UInt8)}, (∀ x ∈ w, x ≠ 32) → (∀ x ∈ v, x ≠ 32) → w ++ joined l = v ++ joined m → w = v ∧ joined l = joined m
  | [], [], _, _, _, _, e => ⟨rfl, e⟩
  | [], y :: v, l, m, _, hv, e => by
    cases l with
    | nil => simp [joined] at e
    | cons a l =>
      simp only [joined, List.nil_append, List.cons_append, List.cons.injEq] at e
      exact absurd e.1.symm (hv y (by simp))
  | x :: w, [], l, m, hw, _, e => by
    cases m with
    | nil => simp [joined] at e
    | cons a l =>
      simp only [joined, List.nil_append, List.cons_append, List.cons.injEq] at e
      exact absurd e.1 (hw x (by simp))
  | x :: w, y :: v, l, m, hw, hv, e => by
    simp only [List.cons_append, List.cons.injEq] at e
    have := word_inj (fun z hz => hw z (by simp [hz])) (fun z hz => hv z (by simp [hz])) e.2
    exact ⟨by rw [e.1, this.1], this.2⟩
def NoSp (l : List (List UInt8)) : Prop := ∀ w ∈ l, ∀ x ∈ w, x ≠ 32
theorem joined_inj : ∀ {l m : List (List UInt8)}, NoSp l → NoSp m → joined l = joined m → l = m
  | [], [], _, _, _ => rfl
  | [], _ :: _, _, _, e => by simp [joined] at e
  | _ :: _, [], _, _, e => by simp [joined] at e
  | w :: l, v :: m, hl, hm, e => by
    simp only [joined, List.cons.injEq] at e
    have h := word_inj (hl w (by simp)) (hm v (by simp)) e.2
    have := joined_inj (fun z hz => hl z (by simp [hz])) (fun z hz => hm z (by simp [hz])) h.2
    rw [h.1, this]
theorem words_nosp (o : Ob) : NoSp (words o) := fun w hw => by
  unfold words at hw
  rw [List.mem_map] at hw
  obtain ⟨r, _, rfl⟩ := hw
  exact rtxt_nospace r
theorem words_len {o : Ob} (h : Poss o) : (words o).length = o.n.toNat := by
  unfold words
  have := h.n4
  rw [List.length_map, List.length_take]
  show min o.n.toNat 4 = _
  omega
theorem words_at {o : Ob} {j : Nat} (hj : (j : Int) < o.n) (h4 : j < 4) : (words o)[j]? = some (rtxt (o.fld j)) := by
  unfold words
  rw [List.getElem?_map, List.getElem?_take, if_pos (by omega), fs_at o j h4]
  rfl
theorem otxt_inj {o p : Ob} (ho : Poss o) (hp : Poss p) (e : otxt o = otxt p) : o = p := by
  unfold otxt at e
  cases h1 : o.h <;> cases h2 : p.h <;> rw [h1, h2] at e
  · simp only [Bool.false_eq_true, if_false] at e
    have e := joined_inj (words_nosp o) (words_nosp p) (List.append_cancel_left e)
    have hn : o.n = p.n := by
      have := words_len ho
      have := words_len hp
      have := ho.n0
      have := hp.n0
      have := congrArg List.length e
      omega
    refine Ob.same hn (by rw [h1, h2]) fun j hj => ?_
    by_cases hl : (j : Int) < o.n
    · have a := words_at hl hj
      have b := words_at (o := p) (by omega) hj
      rw [e, b] at a
      exact (rtxt_inj (hp.ok j hj) (ho.ok j hj) (Option.some.inj a)).symm
    · rw [ho.em j hj (by omega), hp.em j hj (by omega)]
  · simp [objW, hndW] at e
  · simp [objW, hndW] at e
  · have a := ho.hh h1
    have b := hp.hh h2
    exact Ob.same (by omega) (by rw [h1, h2]) fun j hj => by rw [ho.em j hj (by omega), hp.em j hj (by omega)]
theorem joined_len : ∀ (l : List (List UInt8)) (k : Nat), (∀ w ∈ l, w.length ≤ k) → (joined l).length ≤ l.length * (k + 1)
  | [], _, _ => by simp [joined]
  | w :: l, k, h => by
    have := joined_len l k (fun z hz => h z (by simp [hz]))
    have := h w (by simp)
    simp only [joined, List.length_cons, List.length_append, Nat.add_mul]
    omega
theorem otxt_len {o : Ob} (h : Poss o) : 6 ≤ (otxt o).length ∧ (otxt o).length ≤ 94 := by
  unfold otxt
  split
  · decide
  · have a := joined_len (words o) 21 (fun w hw => by
      unfold words at hw
      rw [List.mem_map] at hw
      obtain ⟨r, hr, rfl⟩ := hw
      have hr := List.mem_of_mem_take hr
      obtain ⟨j, hj, e⟩ := List.getElem_of_mem hr
      have hj4 : j < 4 := hj
      have := fs_at o j hj4
      rw [List.getElem?_eq_getElem hj, e] at this
      rw [Option.some.inj this]
      exact (rtxt_len (h.ok j hj4)).2)
    rw [words_len h] at a
    have := h.n4
    simp only [List.length_append]
    have e : objW.length = 6 := rfl
    have : o.n.toNat * (21 + 1) ≤ 4 * 22 := Nat.mul_le_mul (by omega) (by omega)
    omega
/-- No possible object has this text. -/
def NoObj (l : List UInt8) : Prop := ∀ o, Poss o → l ≠ otxt o
theorem obj_or (l : List UInt8) : (∃ o, Poss o ∧ l = otxt o) ∨ NoObj l := by
  by_cases h : ∃ o, Poss o ∧ l = otxt o
  · exact .inl h
  · exact .inr fun o h1 e => h ⟨o, h1, e⟩
open Classical in
noncomputable def textR (o : Ob) : List UInt8 × Int := if Poss o then (otxt o, 0) else ([], 2)
theorem text_ok' {o : Ob} (h : Poss o) : textR o = (otxt o, 0) := by unfold textR; rw [if_pos h]
theorem text_bad' {o : Ob} (h : ¬ Poss o) : textR o = ([], 2) := by unfold textR; rw [if_neg h]
open Classical in
noncomputable def parseR (l : List UInt8) : Ob × Int := if h : ∃ o, Poss o ∧ l = otxt o then (Classical.choose h, 0) else (ob0, 9)
theorem parse_ok' {o : Ob} (h : Poss o) : parseR (otxt o) = (o, 0) := by
  have hx : ∃ p, Poss p ∧ otxt o = otxt p := ⟨o, h, rfl⟩
  unfold parseR
  rw [dif_pos hx]
  obtain ⟨h1, h2⟩ := Classical.choose_spec hx
  exact Prod.ext (otxt_inj h h1 h2).symm rfl
theorem parse_bad' {l : List UInt8} (h : NoObj l) : parseR l = (ob0, 9) := by
  unfold parseR
  rw [dif_neg (fun ⟨o, h1, h2⟩ => h o h1 h2)]

/-! A text cut at its spaces. -/
theorem index_none {m : UInt8} : ∀ (a : List UInt8), (∀ x ∈ a, x ≠ m) → index a [m] = -1
  | [], _ => by simp [index]
  | x :: a, h => by
    have h0 : x ≠ m := h x (by simp)
    have ih := index_none a (fun y hy => h y (by simp [hy]))
    have e : (m == x) = false := beq_eq_false_iff_ne.2 (fun e => h0 e.symm)
    simp only [index, List.isPrefixOf, e, Bool.false_and]
    rw [ih]
    decide
theorem splitK_words : ∀ (l : List (List UInt8)) (h : List UInt8) (k : Nat), (∀ x ∈ h, x ≠ 32) → NoSp l → l.length ≤ k → splitK [32] 0 k (h ++ joined l) = h :: l
  | [], h, k, hh, _, _ => by
    rw [joined, List.append_nil]
    cases k with
    | zero => rfl
    | succ k => rw [splitK, index_none h hh]; rfl
  | w :: l, h, 0, _, _, hk => by simp at hk
  | w :: l, h, k + 1, hh, hl, hk => by
    have e := index_mark (m := 32) h (w ++ joined l) hh
    rw [joined, splitK, e, if_neg (by rw [beq_iff_eq]; omega)]
    have e2 : ((h.length : Nat) : Int).toNat = h.length := by omega
    rw [e2, Nat.add_zero, List.take_left]
    have e3 : (h ++ 32 :: (w ++ joined l)).drop (h.length + [(32 : UInt8)].length) = w ++ joined l := by
      rw [show h ++ 32 :: (w ++ joined l) = (h ++ [32]) ++ (w ++ joined l) by simp, List.drop_left' (by simp)]
    rw [e3, splitK_words l w k (hl w (by simp)) (fun z hz => hl z (by simp [hz])) (by simpa using hk)]
theorem count_words : ∀ (l : List (List UInt8)) (h : List UInt8), (∀ x ∈ h, x ≠ 32) → NoSp l → (h ++ joined l).count 32 = l.length
  | [], h, hh, _ => by
    rw [joined, List.append_nil, List.length_nil, List.count_eq_zero]
    exact fun hx => hh 32 hx rfl
  | w :: l, h, hh, hl => by
    have ih := count_words l w (hl w (by simp)) (fun z hz => hl z (by simp [hz]))
    have h0 : h.count 32 = 0 := List.count_eq_zero.2 fun hx => hh 32 hx rfl
    rw [joined, List.count_append, h0, List.count_cons, ih]
    simp
end Go.Proofs.YtmbkhkijmfogcaaDoor
