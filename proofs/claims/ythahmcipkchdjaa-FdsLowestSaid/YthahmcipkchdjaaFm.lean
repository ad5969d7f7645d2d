/- Plain mathematics of tables of files: the ids, the numbers, what a resource stands for, what opening and closing make of a table. -/
import Derived.Test.YthahmcipkchdjaaSm
namespace Go.Proofs.Ythahmcipkchdjaa

/-- A table of files: the table of its ids, and the number with which each was opened (0 where it is not open). -/
structure Fb where
  t : Tb
  num : Nat → Nat
structure Fb.Ok (F : Fb) : Prop where
  t : F.t.Ok
  hi : F.t.n ≤ 64
  num : ∀ i, F.num i ≤ 65535
/-- A resource that is possible, and is a file. -/
def IsFile (k i g : Int) : Prop := k = 1 ∧ 0 ≤ i ∧ i < 64 ∧ g ≠ 0
instance (k i g : Int) : Decidable (IsFile k i g) := inferInstanceAs (Decidable (_ ∧ _))
/-- What is said of a resource. -/
def Fb.chk (F : Fb) (k i g : Int) : Int := if IsFile k i g then F.t.chk i g else 2
def Fb.look (F : Fb) (k i g : Int) : Option Int := if F.chk k i g = 0 then some (F.num i.toNat) else none
def Fb.number (F : Fb) (k i g : Int) : Int := (F.look k i g).getD 0
def Fb.opened (F : Fb) (i x : Nat) : Fb := ⟨F.t.took i, put F.num i x⟩
def Fb.close (F : Fb) (i : Nat) : Fb := ⟨F.t.gave i, put F.num i 0⟩
def Fb.closed (F : Fb) (k i g : Int) : Fb := if F.chk k i g = 0 then F.close i.toNat else F
def Fb.opn (F : Fb) (x : Nat) : Fb := match F.t.free with | [] => F | i :: _ => F.opened i x
def ffresh (n g : Nat) : Fb := ⟨fresh n g, fun _ => 0⟩
/-- What Open answers. -/
def Fb.oK (F : Fb) : Nat := match F.t.free with | [] => 0 | _ :: _ => 1
def Fb.oI (F : Fb) : Nat := match F.t.free with | [] => 0 | i :: _ => i
def Fb.oG (F : Fb) : Nat := match F.t.free with | [] => 0 | i :: _ => F.t.g i
def Fb.oE (F : Fb) : Int := match F.t.free with | [] => 4 | _ :: _ => 0

theorem ffresh_ok {n g : Nat} (h1 : 1 ≤ n) (h2 : n ≤ 64) (h3 : 1 ≤ g) (h4 : g ≤ 4294967295) : (ffresh n g).Ok := ⟨fresh_ok h1 (by omega) h3 h4, h2, fun _ => Nat.zero_le _⟩
theorem Fb.Ok.opened {F : Fb} (h : F.Ok) (i : Nat) {x : Nat} (hx : x ≤ 65535) : (F.opened i x).Ok :=
  ⟨h.t.took i, h.hi, fun k => by have := h.num k; simp only [Fb.opened, put]; split <;> omega⟩
theorem Fb.Ok.close {F : Fb} (h : F.Ok) (i : Nat) : (F.close i).Ok :=
  ⟨h.t.gave i, by simp only [Fb.close, Tb.gave_n]; exact h.hi, fun k => by have := h.num k; simp only [Fb.close, put]; split <;> omega⟩
theorem Fb.Ok.closed {F : Fb} (h : F.Ok) (k i g : Int) : (F.closed k i g).Ok := by unfold Fb.closed; split; exact h.close _; exact h
theorem Fb.Ok.opn {F : Fb} (h : F.Ok) {x : Nat} (hx : x ≤ 65535) : (F.opn x).Ok := by unfold Fb.opn; split; exact h; exact h.opened _ hx
theorem Fb.opened_n (F : Fb) (i x : Nat) : (F.opened i x).t.n = F.t.n := rfl
theorem Fb.close_n (F : Fb) (i : Nat) : (F.close i).t.n = F.t.n := F.t.gave_n i
theorem Fb.closed_n (F : Fb) (k i g : Int) : (F.closed k i g).t.n = F.t.n := by unfold Fb.closed; split; exact F.close_n _; rfl
theorem Fb.opn_n (F : Fb) (x : Nat) : (F.opn x).t.n = F.t.n := by unfold Fb.opn; split <;> rfl

theorem Fb.chk_zero {F : Fb} {k i g : Int} (h : F.chk k i g = 0) : IsFile k i g ∧ F.t.chk i g = 0 := by
  unfold Fb.chk at h
  split at h
  · rename_i h1; exact ⟨h1, h⟩
  · omega
/-- An open file: its id, as a natural number. -/
theorem Fb.chk_open {F : Fb} {k i g : Int} (h : F.chk k i g = 0) : k = 1 ∧ ∃ j : Nat, i = j ∧ j < F.t.n ∧ F.t.s j = 1 ∧ (F.t.g j : Int) = g := by
  obtain ⟨⟨h1, _⟩, h2⟩ := Fb.chk_zero h
  obtain ⟨h3, h4, h5, h6⟩ := Tb.chk_zero h2
  exact ⟨h1, i.toNat, by omega, by omega, h5, h6⟩
theorem Fb.Ok.chk_held {F : Fb} (h : F.Ok) {i : Nat} (h1 : i < F.t.n) (h2 : F.t.s i = 1) : F.chk 1 i (F.t.g i) = 0 := by
  have := h.hi
  have := h.t.g1 i h1
  unfold Fb.chk
  rw [if_pos ⟨rfl, by omega, by omega, by omega⟩, Tb.chk_held h1 h2]
theorem Fb.chk_cases (F : Fb) (k i g : Int) : (¬ IsFile k i g ∧ F.chk k i g = 2) ∨ (IsFile k i g ∧ F.chk k i g = F.t.chk i g) := by
  unfold Fb.chk
  by_cases h : IsFile k i g
  · exact .inr ⟨h, if_pos h⟩
  · exact .inl ⟨h, if_neg h⟩
theorem Fb.look_open {F : Fb} {k i g : Int} (h : F.chk k i g = 0) : F.look k i g = some (F.num i.toNat) := if_pos h
theorem Fb.look_none {F : Fb} {k i g : Int} (h : F.chk k i g ≠ 0) : F.look k i g = none := if_neg h

theorem gave_g_other {T : Tb} {i j : Nat} (h : j ≠ i) : (T.gave i).g j = T.g j := by
  unfold Tb.gave; split
  · rfl
  · exact put_other h
theorem gave_s_other {T : Tb} {i j : Nat} (h : j ≠ i) : (T.gave i).s j = T.s j := by
  unfold Tb.gave; split <;> exact put_other h
theorem gave_s_ne (T : Tb) (i : Nat) : (T.gave i).s i ≠ 1 := by
  unfold Tb.gave; split <;> simp [put_same]
/-- What opening makes of what is said. -/
theorem Fb.look_opened {F : Fb} (hF : F.Ok) {i x : Nat} (hi : i < F.t.n) (hs : F.t.s i = 0) (k' i' g' : Int) :
    (F.opened i x).look k' i' g' = if k' = 1 ∧ i' = i ∧ g' = F.t.g i then some (x : Int) else F.look k' i' g' := by
  have hh := hF.hi
  have hg := hF.t.g1 i hi
  by_cases e : k' = 1 ∧ i' = i ∧ g' = F.t.g i
  · obtain ⟨rfl, rfl, rfl⟩ := e
    rw [if_pos ⟨rfl, rfl, rfl⟩]
    have hc : (F.opened i x).chk 1 i (F.t.g i) = 0 := by
      unfold Fb.chk
      rw [if_pos ⟨rfl, by omega, by omega, by omega⟩]
      exact Tb.chk_held (T := F.t.took i) hi (by simp [Tb.took, put_same])
    rw [Fb.look_open hc]
    simp [Fb.opened, put_same]
  · rw [if_neg e]
    have hiff : (F.opened i x).chk k' i' g' = 0 ↔ F.chk k' i' g' = 0 := by
      constructor
      · intro h
        obtain ⟨rfl, j, rfl, h1, h2, h3⟩ := Fb.chk_open h
        have hne : j ≠ i := by rintro rfl; exact e ⟨rfl, rfl, h3.symm⟩
        have h2' : F.t.s j = 1 := by rw [← h2]; exact (put_other hne).symm
        rw [← h3]
        exact hF.chk_held h1 h2'
      · intro h
        obtain ⟨rfl, j, rfl, h1, h2, h3⟩ := Fb.chk_open h
        have hne : j ≠ i := by rintro rfl; omega
        rw [← h3]
        have h1' := hF.t.g1 j h1
        unfold Fb.chk
        rw [if_pos ⟨rfl, by omega, by omega, by omega⟩]
        exact Tb.chk_held (T := F.t.took i) h1 (by simp only [Tb.took]; rw [put_other hne]; exact h2)
    by_cases hc : F.chk k' i' g' = 0
    · rw [Fb.look_open hc, Fb.look_open (hiff.2 hc)]
      obtain ⟨rfl, j, rfl, h1, h2, h3⟩ := Fb.chk_open hc
      have hne : j ≠ i := by rintro rfl; omega
      simp [Fb.opened, put_other hne]
    · rw [Fb.look_none hc, Fb.look_none (fun h => hc (hiff.1 h))]
/-- What closing makes of what is said. -/
theorem Fb.look_close {F : Fb} (hF : F.Ok) {i : Nat} (hi : i < F.t.n) (hs : F.t.s i = 1) (k' i' g' : Int) :
    (F.close i).look k' i' g' = if k' = 1 ∧ i' = i ∧ g' = F.t.g i then none else F.look k' i' g' := by
  have hh := hF.hi
  have hiff : (F.close i).chk k' i' g' = 0 ↔ F.chk k' i' g' = 0 ∧ i' ≠ i := by
    constructor
    · intro h
      obtain ⟨rfl, j, rfl, h1, h2, h3⟩ := Fb.chk_open h
      have hne : j ≠ i := by rintro rfl; exact gave_s_ne _ _ h2
      simp only [Fb.close, gave_s_other hne, gave_g_other hne, Tb.gave_n] at h1 h2 h3
      rw [← h3]
      exact ⟨hF.chk_held h1 h2, by omega⟩
    · rintro ⟨h, hne'⟩
      obtain ⟨rfl, j, rfl, h1, h2, h3⟩ := Fb.chk_open h
      have hne : j ≠ i := by omega
      have h1' := hF.t.g1 j h1
      rw [← h3]
      unfold Fb.chk
      rw [if_pos ⟨rfl, by omega, by omega, by omega⟩]
      have := Tb.chk_held (T := F.t.gave i) (i := j) (by rw [Tb.gave_n]; exact h1) (by rw [gave_s_other hne]; exact h2)
      rw [gave_g_other hne] at this
      exact this
  by_cases e : k' = 1 ∧ i' = i ∧ g' = F.t.g i
  · rw [if_pos e, Fb.look_none (fun h => (hiff.1 h).2 e.2.1)]
  · rw [if_neg e]
    by_cases hc : F.chk k' i' g' = 0
    · obtain ⟨hk, j, hj, h1, h2, h3⟩ := Fb.chk_open hc
      have hne : j ≠ i := by
        rintro rfl
        exact e ⟨hk, hj, h3.symm⟩
      rw [Fb.look_open hc, Fb.look_open (hiff.2 ⟨hc, by omega⟩), hj]
      simp [Fb.close, put_other hne]
    · rw [Fb.look_none hc, Fb.look_none (fun h => hc (hiff.1 h).1)]

/-- How many are open behind opening and closing. -/
theorem held_opened {F : Fb} {i x : Nat} (hi : i < F.t.n) (hs : F.t.s i = 0) : (F.opened i x).t.held.length = F.t.held.length + 1 := by
  have := sel_put_len (f := F.t.s) (v := 1) (u := 1) hi
  rw [if_neg (by omega), if_pos rfl] at this
  exact this
theorem held_close {F : Fb} {i : Nat} (hi : i < F.t.n) (hs : F.t.s i = 1) : (F.close i).t.held.length = F.t.held.length - 1 := by
  have h0 : ∀ u, u ≠ 1 → (sel (put F.t.s i u) 1 F.t.n).length = (sel F.t.s 1 F.t.n).length - 1 := by
    intro u hu
    have := sel_put_len (f := F.t.s) (v := 1) (u := u) hi
    rw [if_pos hs, if_neg hu] at this
    omega
  unfold Fb.close Tb.gave Tb.held
  split
  · exact h0 2 (by omega)
  · exact h0 0 (by omega)
theorem Fb.Ok.held_len {F : Fb} (h : F.Ok) : F.t.held.length ≤ 64 := by have := sel_len F.t.s 1 F.t.n; have := h.hi; unfold Tb.held; omega
end Go.Proofs.Ythahmcipkchdjaa
