/- Objects by their numbers, what each call of them comes to, and their texts: plain mathematics, nothing of the program. -/
import Derived.Test.YtfnhkapbfgofkaaSm
namespace Go.Proofs.Ytfnhkapbfgofkaa

/-- A reference by its numbers. -/
abbrev Rf := Int × Int
/-- An object by its numbers. -/
structure Ob where
  n : Int
  a : Rf
  b : Rf
  c : Rf
  d : Rf
  h : Bool
/-- The zero object. -/
def ob0 : Ob := ⟨0, (0, 0), (0, 0), (0, 0), (0, 0), false⟩

def Ob.fld (o : Ob) : Nat → Rf
  | 0 => o.a
  | 1 => o.b
  | 2 => o.c
  | _ => o.d
def Ob.upd (o : Ob) (r : Rf) : Nat → Ob
  | 0 => { o with a := r }
  | 1 => { o with b := r }
  | 2 => { o with c := r }
  | _ => { o with d := r }
def Ob.fs (o : Ob) : List Rf := [o.a, o.b, o.c, o.d]

theorem fs_at (o : Ob) (j : Nat) (hj : j < 4) : o.fs[j]? = some (o.fld j) := by
  match j, hj with
  | 0, _ => rfl
  | 1, _ => rfl
  | 2, _ => rfl
  | 3, _ => rfl
theorem upd_same (o : Ob) (r : Rf) (j : Nat) : (o.upd r j).fld j = r := by
  match j with
  | 0 => rfl
  | 1 => rfl
  | 2 => rfl
  | _ + 3 => rfl
theorem upd_ne (o : Ob) (r : Rf) (j k : Nat) (hj : j < 4) (hk : k < 4) (h : k ≠ j) : (o.upd r j).fld k = o.fld k := by
  match j, k, hj, hk with
  | 0, 0, _, _ => exact absurd rfl h
  | 0, 1, _, _ => rfl
  | 0, 2, _, _ => rfl
  | 0, 3, _, _ => rfl
  | 1, 0, _, _ => rfl
  | 1, 1, _, _ => exact absurd rfl h
  | 1, 2, _, _ => rfl
  | 1, 3, _, _ => rfl
  | 2, 0, _, _ => rfl
  | 2, 1, _, _ => rfl
  | 2, 2, _, _ => exact absurd rfl h
  | 2, 3, _, _ => rfl
  | 3, 0, _, _ => rfl
  | 3, 1, _, _ => rfl
  | 3, 2, _, _ => rfl
  | 3, 3, _, _ => exact absurd rfl h
theorem upd_n (o : Ob) (r : Rf) (j : Nat) : (o.upd r j).n = o.n ∧ (o.upd r j).h = o.h := by
  match j with
  | 0 => exact ⟨rfl, rfl⟩
  | 1 => exact ⟨rfl, rfl⟩
  | 2 => exact ⟨rfl, rfl⟩
  | _ + 3 => exact ⟨rfl, rfl⟩
theorem Ob.same {o p : Ob} (hn : o.n = p.n) (hh : o.h = p.h) (hf : ∀ j, j < 4 → o.fld j = p.fld j) : o = p := by
  obtain ⟨n, a, b, c, d, h⟩ := o
  obtain ⟨n', a', b', c', d', h'⟩ := p
  have h0 := hf 0 (by omega)
  have h1 := hf 1 (by omega)
  have h2 := hf 2 (by omega)
  have h3 := hf 3 (by omega)
  simp only [Ob.fld] at h0 h1 h2 h3 hn hh
  subst hn hh h0 h1 h2 h3
  rfl
theorem upd_back (o : Ob) (r : Rf) (j : Nat) (hj : j < 4) : (o.upd r j).upd (o.fld j) j = o := by
  refine Ob.same ?_ ?_ fun k hk => ?_
  · rw [(upd_n _ _ _).1, (upd_n _ _ _).1]
  · rw [(upd_n _ _ _).2, (upd_n _ _ _).2]
  · by_cases h : k = j
    · subst h; rw [upd_same]
    · rw [upd_ne _ _ _ _ hj hk h, upd_ne _ _ _ _ hj hk h]

/-- None, or possible. -/
def RfOk (r : Rf) : Prop := r = (0, 0) ∨ (0 ≤ r.1 ∧ r.1 < 256 ∧ 0 < r.2 ∧ r.2 ≤ 4294967295)
/-- What the types hold. -/
def Rr (r : Rf) : Prop := -9223372036854775808 ≤ r.1 ∧ r.1 ≤ 9223372036854775807 ∧ 0 ≤ r.2 ∧ r.2 ≤ 4294967295
structure Rg (o : Ob) : Prop where
  n1 : -9223372036854775808 ≤ o.n
  n2 : o.n ≤ 9223372036854775807
  f : ∀ j, j < 4 → Rr (o.fld j)
/-- An object is possible. -/
structure Poss (o : Ob) : Prop where
  n0 : 0 ≤ o.n
  n4 : o.n ≤ 4
  hh : o.h = true → o.n = 0
  ok : ∀ j, j < 4 → RfOk (o.fld j)
  em : ∀ j : Nat, j < 4 → o.n ≤ j → o.fld j = (0, 0)

theorem RfOk.rr {r : Rf} (h : RfOk r) : Rr r := by
  rcases h with rfl | ⟨h1, h2, h3, h4⟩
  · exact ⟨by decide, by decide, by decide, by decide⟩
  · exact ⟨by omega, by omega, by omega, by omega⟩
theorem Poss.rg {o : Ob} (h : Poss o) : Rg o := ⟨by have := h.n0; omega, by have := h.n4; omega, fun j hj => (h.ok j hj).rr⟩
theorem rfok_none : RfOk (0, 0) := .inl rfl
theorem rg0 : Rg ob0 := ⟨by decide, by decide, fun j hj => by
  match j, hj with
  | 0, _ => exact rfok_none.rr
  | 1, _ => exact rfok_none.rr
  | 2, _ => exact rfok_none.rr
  | 3, _ => exact rfok_none.rr⟩
theorem Rg.upd {o : Ob} (h : Rg o) {r : Rf} (hr : Rr r) {j : Nat} (hj : j < 4) : Rg (o.upd r j) := by
  refine ⟨by rw [(upd_n _ _ _).1]; exact h.n1, by rw [(upd_n _ _ _).1]; exact h.n2, fun k hk => ?_⟩
  by_cases e : k = j
  · subst e; rw [upd_same]; exact hr
  · rw [upd_ne _ _ _ _ hj hk e]; exact h.f k hk
theorem Poss.upd {o : Ob} (h : Poss o) {r : Rf} (hr : RfOk r) {j : Nat} (hj : (j : Int) < o.n) : Poss (o.upd r j) := by
  have hj4 : j < 4 := by have := h.n4; omega
  refine ⟨by rw [(upd_n _ _ _).1]; exact h.n0, by rw [(upd_n _ _ _).1]; exact h.n4, by rw [(upd_n _ _ _).1, (upd_n _ _ _).2]; exact h.hh, fun k hk => ?_, fun k hk hn => ?_⟩
  · by_cases e : k = j
    · subst e; rw [upd_same]; exact hr
    · rw [upd_ne _ _ _ _ hj4 hk e]; exact h.ok k hk
  · rw [(upd_n _ _ _).1] at hn
    rw [upd_ne _ _ _ _ hj4 hk (by omega)]
    exact h.em k hk hn

/-! What the calls come to. -/
open Classical in
noncomputable def chk (o : Ob) : Int := if Poss o then 0 else 2
theorem chk_ok {o : Ob} (h : Poss o) : chk o = 0 := by unfold chk; rw [if_pos h]
theorem chk_bad {o : Ob} (h : ¬ Poss o) : chk o = 2 := by unfold chk; rw [if_neg h]
open Classical in
noncomputable def getR (o : Ob) (i : Int) : Rf × Int := if Poss o then (if 0 ≤ i ∧ i < o.n then (o.fld i.toNat, 0) else ((0, 0), 3)) else ((0, 0), 2)
theorem get_ok {o : Ob} (h : Poss o) {i : Int} (hi : 0 ≤ i ∧ i < o.n) : getR o i = (o.fld i.toNat, 0) := by unfold getR; rw [if_pos h, if_pos hi]
theorem get_out {o : Ob} (h : Poss o) {i : Int} (hi : i < 0 ∨ o.n ≤ i) : getR o i = ((0, 0), 3) := by unfold getR; rw [if_pos h, if_neg (by omega)]
theorem get_bad {o : Ob} (h : ¬ Poss o) (i : Int) : getR o i = ((0, 0), 2) := by unfold getR; rw [if_neg h]
open Classical in
noncomputable def setR (o : Ob) (i : Int) (r : Rf) : Ob × Rf × Int := if Poss o ∧ RfOk r then (if 0 ≤ i ∧ i < o.n then (o.upd r i.toNat, o.fld i.toNat, 0) else (ob0, (0, 0), 3)) else (ob0, (0, 0), 2)
theorem set_ok {o : Ob} (h : Poss o) {r : Rf} (hr : RfOk r) {i : Int} (hi : 0 ≤ i ∧ i < o.n) : setR o i r = (o.upd r i.toNat, o.fld i.toNat, 0) := by unfold setR; rw [if_pos ⟨h, hr⟩, if_pos hi]
theorem set_out {o : Ob} (h : Poss o) {r : Rf} (hr : RfOk r) {i : Int} (hi : i < 0 ∨ o.n ≤ i) : setR o i r = (ob0, (0, 0), 3) := by unfold setR; rw [if_pos ⟨h, hr⟩, if_neg (by omega)]
theorem set_bad {o : Ob} {r : Rf} (h : ¬ Poss o ∨ ¬ RfOk r) (i : Int) : setR o i r = (ob0, (0, 0), 2) := by
  unfold setR
  rw [if_neg (fun hh => h.elim (fun h => h hh.1) (fun h => h hh.2))]
def mk (n : Int) (h : Bool) : Ob := ⟨n, (0, 0), (0, 0), (0, 0), (0, 0), h⟩
open Classical in
noncomputable def newR (n : Int) (h : Bool) : Ob × Int := if Poss (mk n h) then (mk n h, 0) else (ob0, 2)
theorem new_okF {n : Int} {h : Bool} (hp : Poss (mk n h)) : newR n h = (mk n h, 0) := by unfold newR; rw [if_pos hp]
theorem new_bad {n : Int} {h : Bool} (hp : ¬ Poss (mk n h)) : newR n h = (ob0, 2) := by unfold newR; rw [if_neg hp]
theorem mk_fld (n : Int) (h : Bool) (j : Nat) : (mk n h).fld j = (0, 0) := by
  match j with
  | 0 => rfl
  | 1 => rfl
  | 2 => rfl
  | _ + 3 => rfl
theorem mk_poss {n : Int} {h : Bool} (h0 : 0 ≤ n) (h4 : n ≤ 4) (hh : h = true → n = 0) : Poss (mk n h) :=
  ⟨h0, h4, hh, fun j _ => by rw [mk_fld]; exact rfok_none, fun j _ _ => mk_fld n h j⟩
/-- The fields that are not empty. -/
def refs (o : Ob) : List Rf := o.fs.filter (fun r => r != (0, 0))
end Go.Proofs.Ytfnhkapbfgofkaa
