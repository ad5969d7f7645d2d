/- Plain mathematics of pools of buffers: the table of their ids, the bytes of each, what pinning and unpinning make of a pool. -/
import Derived.Test.YtjhgckaaaonbiaaSm
namespace Go.Proofs.Ytjhgckaaaonbiaa

/-- A pool: the table of its ids, how many bytes it has, the bytes by ids (of those that are pinned). -/
structure Po where
  t : Tb
  room : Nat
  m : Nat → Nat
structure Po.Ok (P : Po) : Prop where
  t : P.t.Ok
  hi : P.t.n ≤ 64
  room : P.room ≤ 16777216
  m : ∀ i, P.m i ≤ 65536
/-- How many bytes are pinned. -/
def Po.used (P : Po) : Nat := (P.t.held.map P.m).sum
def Po.chk (P : Po) (k i g : Int) : Int := if k = 2 then P.t.chk i g else 2
def Po.size (P : Po) (k i g : Int) : Int := if P.chk k i g = 0 then P.m i.toNat else 0
/-- What Pin says. -/
def Po.can (P : Po) (x : Int) : Int := if x < 1 ∨ 65536 < x then 2 else if (P.room : Int) < P.used + x then 4 else match P.t.free with | [] => 4 | _ :: _ => 0
def Po.put (P : Po) (i x : Nat) : Po := ⟨P.t.took i, P.room, Go.Proofs.Ytjhgckaaaonbiaa.put P.m i x⟩
def Po.pin (P : Po) (x : Int) : Po := if P.can x = 0 then (match P.t.free with | [] => P | i :: _ => P.put i x.toNat) else P
def Po.pK (P : Po) (x : Int) : Nat := if P.can x = 0 then 2 else 0
def Po.pI (P : Po) (x : Int) : Nat := if P.can x = 0 then (match P.t.free with | [] => 0 | i :: _ => i) else 0
def Po.pG (P : Po) (x : Int) : Nat := if P.can x = 0 then (match P.t.free with | [] => 0 | i :: _ => P.t.g i) else 0
def Po.gave (P : Po) (i : Nat) : Po := ⟨P.t.gave i, P.room, P.m⟩
def Po.unpin (P : Po) (k i g : Int) : Po := if P.chk k i g = 0 then P.gave i.toNat else P
def pfresh (n r g : Nat) : Po := ⟨fresh n g, r, fun _ => 0⟩

theorem pfresh_ok {n r g : Nat} (h1 : 1 ≤ n) (h2 : n ≤ 64) (h3 : 1 ≤ g) (h4 : g ≤ 4294967295) (h5 : r ≤ 16777216) : (pfresh n r g).Ok := ⟨fresh_ok h1 (by omega) h3 h4, h2, h5, fun _ => Nat.zero_le _⟩
theorem Po.Ok.put {P : Po} (h : P.Ok) (i : Nat) {x : Nat} (hx : x ≤ 65536) : (P.put i x).Ok :=
  ⟨h.t.took i, h.hi, h.room, fun k => by have := h.m k; simp only [Po.put, Go.Proofs.Ytjhgckaaaonbiaa.put]; split <;> omega⟩
theorem Po.Ok.gave {P : Po} (h : P.Ok) (i : Nat) : (P.gave i).Ok :=
  ⟨h.t.gave i, by simp only [Po.gave, Tb.gave_n]; exact h.hi, h.room, h.m⟩
theorem Po.Ok.unpin {P : Po} (h : P.Ok) (k i g : Int) : (P.unpin k i g).Ok := by unfold Po.unpin; split; exact h.gave _; exact h
theorem Po.can_zero {P : Po} {x : Int} (h : P.can x = 0) : 1 ≤ x ∧ x ≤ 65536 ∧ (P.used : Int) + x ≤ P.room ∧ ∃ i r, P.t.free = i :: r := by
  unfold Po.can at h
  split at h
  · omega
  · split at h
    · omega
    · split at h
      · omega
      · rename_i i r e; exact ⟨by omega, by omega, by omega, i, r, e⟩
theorem Po.pin_zero {P : Po} {x : Int} (h : P.can x = 0) {i : Nat} {r : List Nat} (e : P.t.free = i :: r) : P.pin x = P.put i x.toNat ∧ P.pK x = 2 ∧ P.pI x = i ∧ P.pG x = P.t.g i := by
  unfold Po.pin Po.pK Po.pI Po.pG
  simp only [if_pos h, e]
  exact ⟨trivial, trivial, trivial, trivial⟩
theorem Po.pin_ne {P : Po} {x : Int} (h : P.can x ≠ 0) : P.pin x = P ∧ P.pK x = 0 ∧ P.pI x = 0 ∧ P.pG x = 0 := by
  unfold Po.pin Po.pK Po.pI Po.pG
  simp only [if_neg h]
  exact ⟨trivial, trivial, trivial, trivial⟩
theorem Po.Ok.pin {P : Po} (h : P.Ok) (x : Int) : (P.pin x).Ok := by
  by_cases e : P.can x = 0
  · obtain ⟨h1, h2, _, i, r, hf⟩ := Po.can_zero e
    rw [(Po.pin_zero e hf).1]
    exact h.put i (by omega)
  · rw [(Po.pin_ne e).1]; exact h
/-- The three ways of Pin. -/
theorem Po.can_cases (P : Po) (x : Int) : ((x < 1 ∨ 65536 < x) ∧ P.can x = 2) ∨ (1 ≤ x ∧ x ≤ 65536 ∧ (P.room : Int) < P.used + x ∧ P.can x = 4) ∨ (1 ≤ x ∧ x ≤ 65536 ∧ (P.used : Int) + x ≤ P.room ∧ P.t.free = [] ∧ P.can x = 4) ∨ (1 ≤ x ∧ x ≤ 65536 ∧ (P.used : Int) + x ≤ P.room ∧ ∃ i r, P.t.free = i :: r ∧ P.can x = 0) := by
  unfold Po.can
  by_cases h : x < 1 ∨ 65536 < x
  · exact .inl ⟨h, if_pos h⟩
  · rw [if_neg h]
    by_cases h2 : (P.room : Int) < P.used + x
    · exact .inr (.inl ⟨by omega, by omega, h2, if_pos h2⟩)
    · rw [if_neg h2]
      cases e : P.t.free with
      | nil => exact .inr (.inr (.inl ⟨by omega, by omega, by omega, rfl, rfl⟩))
      | cons i r => exact .inr (.inr (.inr ⟨by omega, by omega, by omega, i, r, rfl, rfl⟩))
theorem Po.unpin_n (P : Po) (k i g : Int) : (P.unpin k i g).t.n = P.t.n := by unfold Po.unpin; split; exact P.t.gave_n _; rfl
theorem Po.pin_n (P : Po) (x : Int) : (P.pin x).t.n = P.t.n := by
  by_cases e : P.can x = 0
  · obtain ⟨_, _, _, i, r, hf⟩ := Po.can_zero e
    rw [(Po.pin_zero e hf).1]; rfl
  · rw [(Po.pin_ne e).1]

theorem sum_le (l : List Nat) (f : Nat → Nat) (c : Nat) (h : ∀ i ∈ l, f i ≤ c) : (l.map f).sum ≤ l.length * c := by
  induction l with
  | nil => simp
  | cons a l ih =>
    have h1 := h a (by simp)
    have h2 := ih fun i hi => h i (by simp [hi])
    simp only [List.map_cons, List.sum_cons, List.length_cons, Nat.add_mul, Nat.one_mul]
    omega
theorem Po.Ok.held_len {P : Po} (h : P.Ok) : P.t.held.length ≤ 64 := by have := sel_len P.t.s 1 P.t.n; have := h.hi; unfold Tb.held; omega
theorem Po.Ok.used_le {P : Po} (h : P.Ok) : P.used ≤ 4194304 := by
  have h1 := sum_le P.t.held P.m 65536 fun i _ => h.m i
  have h2 := h.held_len
  unfold Po.used
  omega
/-- The sum over the buffers that come first. -/
theorem Po.used_now (P : Po) : (P.t.now.map fun r => P.m r.1).sum = P.used := by
  unfold Po.used Tb.now Tb.refs
  rw [List.map_map]; rfl

theorem Po.chk_pinned {P : Po} {k i g : Int} (h : P.chk k i g = 0) : k = 2 ∧ ∃ j : Nat, i = j ∧ j < P.t.n ∧ P.t.s j = 1 ∧ (P.t.g j : Int) = g := by
  unfold Po.chk at h
  split at h
  · rename_i e
    obtain ⟨h3, h4, h5, h6⟩ := Tb.chk_zero h
    exact ⟨e, i.toNat, by omega, by omega, h5, h6⟩
  · omega
theorem Po.chk_held {P : Po} {i : Nat} (h1 : i < P.t.n) (h2 : P.t.s i = 1) : P.chk 2 i (P.t.g i) = 0 := by
  unfold Po.chk
  rw [if_pos rfl, Tb.chk_held h1 h2]
theorem Po.size_held {P : Po} {i : Nat} (h1 : i < P.t.n) (h2 : P.t.s i = 1) : P.size 2 i (P.t.g i) = P.m i := by
  unfold Po.size
  rw [if_pos (Po.chk_held h1 h2), Int.toNat_natCast]
theorem Po.unpin_held {P : Po} {i : Nat} (h1 : i < P.t.n) (h2 : P.t.s i = 1) : P.unpin 2 i (P.t.g i) = P.gave i := by
  unfold Po.unpin
  rw [if_pos (Po.chk_held h1 h2), Int.toNat_natCast]
theorem Po.chk_vals (P : Po) (k i g : Int) : P.chk k i g = 0 ∨ P.chk k i g = 2 ∨ P.chk k i g = 3 ∨ P.chk k i g = 7 := by
  unfold Po.chk Tb.chk
  split
  · split
    · simp
    · split <;> simp
  · simp
end Go.Proofs.Ytjhgckaaaonbiaa
