/- clear on a slice of leases; a desk whose leases are given back one by one. -/
import Derived.Laws.CopyRow
import Derived.Laws.CopyOwn
import Derived.Test.YtfemfgpciogbeaaYl
namespace Go.Proofs.Ytfemfgpciogbeaa
open Go.RowKit Go.ChangeShapes

theorem zeroOut (w : World) : (zeroValue 33).run Try.prog w = .ok (.agg #[.int .i64 0, .int .i64 0, .int .u32 0]) w := by kernel_rfl
def zo : Array Value := #[.int .i64 0, .int .i64 0, .int .u32 0]
theorem zo_at (i : Nat) : (zo[i % 3]!).oneCell' = true := by
  have h : i % 3 < 3 := Nat.mod_lt _ (by decide)
  generalize i % 3 = k at h
  match k, h with
  | 0, _ => rfl
  | 1, _ => rfl
  | 2, _ => rfl
theorem zo_one (n : Nat) : ∀ v ∈ (Builtin.zeroCells zo n).toList, v.oneCell' = true := by
  intro v hv
  rw [Array.mem_toList_iff] at hv
  unfold Builtin.zeroCells at hv
  obtain ⟨i, _, rfl⟩ := Array.mem_map.1 hv
  exact zo_at i
theorem zo_len (n : Nat) : (Builtin.zeroCells zo n).toList.length = n * 3 := by simp [Builtin.zeroCells, zo]
/-- clear on a slice of leases of its own. -/
theorem run_clear_o {W : World} {base n c : Nat} {p : Option Addr} {l : List Ro} (hn : l.length = n) (h : W.ownsRow base 33 3 (.slice p n c) l.length (ocls l)) (ty : TypeId) :
    ∃ W', (Builtin.clear_ #[48] ty #[.slice p n c]).run Try.prog W = .ok (.tuple #[]) W' ∧ Below base W W' := by
  have hu := Try.underlying48
  rcases h.2 with ⟨e, h0⟩ | ⟨g, cap, cur, e, hb, hk, h3, h4, h5, h6⟩
  · injection e with e1 e2 e3
    subst e1 e2 e3
    exact ⟨W, by simp [Builtin.clear_, run_underlying hu], Below.refl _ _⟩
  · injection e with e1 e2 e3
    subst e1 e3
    cases n with
    | zero => exact ⟨W, by simp [Builtin.clear_, run_underlying hu], Below.refl _ _⟩
    | succ m =>
      have hst := run_storeCells_at Try.prog g 0 33 (Builtin.zeroCells zo (m + 1)).toList 0 cur W hk (by rw [zo_len, h5]; omega) (zo_one _)
      have hz := zeroOut
      have hzc : (Value.agg #[.int .i64 0, .int .i64 0, .int .u32 0]).cells = zo := rfl
      have key : ∀ R, (storeCells ⟨g, 0, none⟩ (Builtin.zeroCells zo (m + 1)).toList).run Try.prog W = .ok () (W.setRow g R) → ∃ W', (Builtin.clear_ #[48] ty #[.slice (some ⟨g, 0, none⟩) (m + 1) c]).run Try.prog W = .ok (.tuple #[]) W' ∧ Below base W W' := fun R hst =>
        ⟨W.setRow g R, by simp [Builtin.clear_, run_underlying hu, hz, hzc, hst], below_setRow (Below.refl _ _) hb _⟩
      exact key _ hst

/-- What is left of a desk when its first j leases were given back. -/
structure Rt (D E : Dk) (j : Nat) : Prop where
  n : E.t.n = D.t.n
  s : ∀ i, i < D.t.n → (E.t.s i = 1 ↔ D.t.s i = 1 ∧ i ∉ D.t.held.take j)
  g : ∀ i, i ∉ D.t.held.take j → E.t.g i = D.t.g i
theorem Rt.start (D : Dk) : Rt D D 0 := ⟨rfl, fun _ _ => by simp, fun _ _ => rfl⟩
theorem Rt.give {D E : Dk} {j i : Nat} (h : Rt D E j) (hi : D.t.held[j]? = some i) : Rt D (E.give i) (j + 1) := by
  have ht : D.t.held.take (j + 1) = D.t.held.take j ++ [i] := by rw [List.take_add_one, hi]; rfl
  refine ⟨?_, ?_, ?_⟩
  · unfold Dk.give Tb.gave; split <;> exact h.n
  · intro k hk
    rw [ht, List.mem_append, List.mem_singleton]
    by_cases e : k = i
    · subst e
      unfold Dk.give Tb.gave
      split <;> simp [put_same]
    · have hs : (E.give i).t.s k = E.t.s k := by unfold Dk.give Tb.gave; split <;> exact put_other e
      rw [hs, h.s k hk]
      simp [e]
  · intro k hk
    rw [ht, List.mem_append, List.mem_singleton, not_or] at hk
    have hs : (E.give i).t.g k = E.t.g k := by
      unfold Dk.give Tb.gave
      split
      · rfl
      · exact put_other hk.2
    rw [hs]; exact h.g k hk.1
theorem held_new {D : Dk} {j i : Nat} (hi : D.t.held[j]? = some i) : i ∉ D.t.held.take j := fun hm => by
  have nd : D.t.held.Nodup := by unfold Tb.held sel; exact List.Pairwise.filter _ List.nodup_range
  obtain ⟨q, hq⟩ := List.mem_iff_getElem?.1 hm
  have hlt : q < j := by
    have := (List.getElem?_eq_some_iff.1 hq).1
    rw [List.length_take] at this; omega
  rw [List.getElem?_take_of_lt hlt] at hq
  obtain ⟨h1, e1⟩ := List.getElem?_eq_some_iff.1 hq
  obtain ⟨h2, e2⟩ := List.getElem?_eq_some_iff.1 hi
  exact (List.pairwise_iff_getElem.1 nd) q j h1 h2 hlt (e1.trans e2.symm)
theorem Rt.next {D E : Dk} {j i : Nat} (h : Rt D E j) (hE : E.Ok) (hi : D.t.held[j]? = some i) : E.chk 3 i (D.t.g i) = 0 := by
  obtain ⟨h1, h2⟩ := Tb.held_at hi
  have hn := held_new hi
  have hs := (h.s i h1).2 ⟨h2, hn⟩
  have := hE.chk_held (by rw [h.n]; exact h1) hs
  rw [h.g i hn] at this
  exact this
theorem Rt.done {D E : Dk} (h : Rt D E D.t.held.length) : E.t.held.length = 0 := by
  have : E.t.held = [] := List.eq_nil_iff_forall_not_mem.2 fun i hi => by
    obtain ⟨h1, h2⟩ := mem_sel.1 hi
    rw [h.n] at h1
    obtain ⟨h3, h4⟩ := (h.s i h1).1 h2
    rw [List.take_of_length_le (Nat.le_refl _)] at h4
    exact h4 (mem_sel.2 ⟨h1, h3⟩)
  rw [this]; rfl
theorem all_held {D : Dk} {j : Nat} {o : Ro} (h : D.all[j]? = some o) : ∃ i, D.t.held[j]? = some i ∧ o = ⟨3, i, D.t.g i⟩ := by
  simp only [Dk.all, Tb.now, Tb.refs, List.getElem?_map, Option.map_eq_some_iff] at h
  obtain ⟨r, ⟨i, h1, rfl⟩, rfl⟩ := h
  exact ⟨i, h1, rfl⟩

/-! ### What is refused -/
theorem gE_span {D : Dk} {x now : Int} (h : ¬ (IsSpan x ∧ IsTime now)) : D.gE x now = 2 := if_neg h
theorem gE_over {D : Dk} {x now : Int} (h : IsSpan x ∧ IsTime now) (h2 : ¬ now + x ≤ 1099511627776) : D.gE x now = 17 := by unfold Dk.gE; rw [if_pos h, if_neg h2]
theorem grant_no {D : Dk} {x now : Int} (h : D.gE x now ≠ 0) : (D.gK x now : Int) = 0 ∧ (D.gI x now : Int) = 0 ∧ (D.gG x now : Int) = 0 ∧ D.grant x now = D := by
  unfold Dk.gK Dk.gI Dk.gG Dk.grant
  rw [if_neg h, if_neg h, if_neg h, if_neg h]
  exact ⟨rfl, rfl, rfl, rfl⟩
theorem rE_no {D : Dk} {k i g x now : Int} (h : ¬ (IsLease k i g ∧ IsSpan x ∧ IsTime now)) : D.rE k i g x now = 2 := if_neg h
theorem ret_no {D : Dk} {k i g : Int} (h : D.chk k i g ≠ 0) : D.ret k i g = D := if_neg h
theorem chk_no {D : Dk} {k i g : Int} (h : ¬ IsLease k i g) : D.chk k i g = 2 := if_neg h
theorem oE_no {D : Dk} {k i g now : Int} (h : ¬ IsTime now) : D.oE k i g now = 2 := if_neg h
/-- A lease of the greatest id, of a generation that was never given. -/
theorem chk_far {D : Dk} {m q : Nat} (h : Gn D m q) (hm : 1 ≤ m ∧ m ≤ 64) (hq : q < 900) : D.chk 3 63 900 = if m = 64 then 7 else 3 := by
  have h1 : IsLease 3 63 900 := ⟨rfl, by decide, by decide, by decide⟩
  unfold Dk.chk
  rw [if_pos h1]
  unfold Tb.chk
  have hg := h.2 63
  have hn := h.1
  by_cases c : m = 64
  · rw [if_pos c, if_neg (by omega), if_neg]
    rintro ⟨_, e⟩
    have e' : ((D.t.g 63 : Nat) : Int) = 900 := e
    omega
  · rw [if_neg c, if_pos (by omega)]
/-- What a lease is: granted until its time, or given back. -/
theorem Lw.Ok.row_one {S : Lw} {N j u : Nat} {r : Nat × Nat} (h : S.Ok N) (h1 : S.L[j]? = some r) (h2 : S.U[j]? = some u) :
    (S.D.til 3 r.1 r.2 : Int) = u ∧ ((S.D.chk 3 r.1 r.2 = 0) ∨ (S.D.chk 3 r.1 r.2 = 7)) := by
  rcases Nat.eq_zero_or_pos u with rfl | h3
  · have c := h.chk_zero h1 h2
    refine ⟨?_, .inr c⟩
    unfold Dk.til; rw [if_neg (by rw [c]; decide)]
  · obtain ⟨c, hu⟩ := h.chk_pos h1 h2 h3
    refine ⟨?_, .inl c⟩
    unfold Dk.til; rw [if_pos c, Int.toNat_natCast, hu]
/-- Refused calls on the desk of the statements. -/
theorem grant_ref {w0 w : World} {X b k a cl cu n j : Nat} {pl pu : Option Addr} {okb : Bool} {S : Lw} {v : Value} {l : List Ro} (h : LW w0 w X b k a pl cl pu cu n okb j S) (hr : RowO w v l) (x now E : Int) (hE : S.D.gE x now = E) (h0 : E ≠ 0) : Calls Try.prog 13 #[.pointer (some ⟨b, 0, none⟩), .int .i64 x, .int .i64 now] w fun e w' => e = .returned (.tuple #[.agg #[.int .i64 0, .int .i64 0, .int .u32 0], .int .i64 E]) ∧ Hid (LW w0 w' X b k a pl cl pu cu n okb j S) ∧ Hid (RowO w' v l) := by
  obtain ⟨e1, e2, e3, e4⟩ := grant_no (D := S.D) (x := x) (now := now) (by rw [hE]; exact h0)
  refine (grant_s x now 0 0 0 E h.ds e1 e2 e3 hE).mono ?_
  rintro e w' ⟨rfl, h1, h2⟩
  exact ⟨rfl, h.call h2.out (by have := h1.out; rw [e4] at this; exact this) h.ok, hr.kept h.ds.f h2.out⟩
theorem renew_ref {w0 w : World} {X b k a cl cu n j : Nat} {pl pu : Option Addr} {okb : Bool} {S : Lw} {v : Value} {l : List Ro} (h : LW w0 w X b k a pl cl pu cu n okb j S) (hr : RowO w v l) (x y z t now E : Int) (hg : RgO x y z) (hE : S.D.rE x y z t now = E) (h0 : E ≠ 0) : Calls Try.prog 15 #[.pointer (some ⟨b, 0, none⟩), .agg #[.int .i64 x, .int .i64 y, .int .u32 z], .int .i64 t, .int .i64 now] w fun e w' => e = .returned (.int .i64 E) ∧ Hid (LW w0 w' X b k a pl cl pu cu n okb j S) ∧ Hid (RowO w' v l) := by
  refine (renew_s x y z t now E h.ds hg hE).mono ?_
  rintro e w' ⟨rfl, h1, h2⟩
  exact ⟨rfl, h.call h2.out (by have := h1.out; rw [Dk.renew_ne (by rw [hE]; exact h0)] at this; exact this) h.ok, hr.kept h.ds.f h2.out⟩
theorem ret_ref {w0 w : World} {X b k a cl cu n j : Nat} {pl pu : Option Addr} {okb : Bool} {S : Lw} {v : Value} {l : List Ro} (h : LW w0 w X b k a pl cl pu cu n okb j S) (hr : RowO w v l) (x y z E : Int) (hg : RgO x y z) (hE : S.D.chk x y z = E) (h0 : E ≠ 0) : Calls Try.prog 17 #[.pointer (some ⟨b, 0, none⟩), .agg #[.int .i64 x, .int .i64 y, .int .u32 z]] w fun e w' => e = .returned (.int .i64 E) ∧ Hid (LW w0 w' X b k a pl cl pu cu n okb j S) ∧ Hid (RowO w' v l) := by
  refine (ret_s x y z E h.ds hg hE).mono ?_
  rintro e w' ⟨rfl, h1, h2⟩
  exact ⟨rfl, h.call h2.out (by have := h1.out; rw [ret_no (by rw [hE]; exact h0)] at this; exact this) h.ok, hr.kept h.ds.f h2.out⟩
theorem over_ref {w0 w : World} {X b k a cl cu n j : Nat} {pl pu : Option Addr} {okb : Bool} {S : Lw} {v : Value} {l : List Ro} (h : LW w0 w X b k a pl cl pu cu n okb j S) (hr : RowO w v l) (x y z now E : Int) (hg : RgO x y z) (hE : S.D.oE x y z now = E) (h0 : E ≠ 0) : Calls Try.prog 21 #[.pointer (some ⟨b, 0, none⟩), .agg #[.int .i64 x, .int .i64 y, .int .u32 z], .int .i64 now] w fun e w' => e = .returned (.tuple #[.bool false, .int .i64 E]) ∧ Hid (LW w0 w' X b k a pl cl pu cu n okb j S) ∧ Hid (RowO w' v l) := by
  refine (over_s x y z now E false h.ds hg (Dk.ovr_no (by rw [hE]; exact h0)) hE).mono ?_
  rintro e w' ⟨rfl, _, h2⟩
  exact ⟨rfl, h.quiet h2.out, hr.below h2.out⟩
end Go.Proofs.Ytfemfgpciogbeaa
