/- The layer Y, joined. -/
import Derived.Test.YtpinmiplefidpaaGreatDoorMS
import Derived.Laws.AppendOwn
import Derived.Laws.AppendOwnNone
import Derived.Maps.OwnSet
import Derived.Maps.OwnRows
import Derived.DeepKeys4
import Derived.Carry
import Derived.RegionTactic
import Derived.BigQuiet
import Derived.Deep.RegionHeld3
import Derived.Deep.WholeRow
import Derived.Shelf.RegionOpen
import Derived.StillTailTactics
namespace Go.Proofs.YtpinmiplefidpaaGreatDoor.LS

/-- A desk: the table of its slots, and up to when each id was granted last. -/
structure Dk where
  t : Tb
  u : Nat → Nat
structure Dk.Ok (D : Dk) : Prop where
  t : D.t.Ok
  hi : D.t.n ≤ 64
  u : ∀ i, D.u i ≤ 1099511627776
def IsSpan (x : Int) : Prop := 1 ≤ x ∧ x ≤ 1048576
def IsTime (x : Int) : Prop := 0 ≤ x ∧ x ≤ 1099511627776
def IsLease (k i g : Int) : Prop := k = 3 ∧ 0 ≤ i ∧ i < 64 ∧ g ≠ 0
instance (x : Int) : Decidable (IsSpan x) := inferInstanceAs (Decidable (_ ∧ _))
instance (x : Int) : Decidable (IsTime x) := inferInstanceAs (Decidable (_ ∧ _))
instance (k i g : Int) : Decidable (IsLease k i g) := inferInstanceAs (Decidable (_ ∧ _))
def dfresh (n g : Nat) : Dk := ⟨fresh n g, fun _ => 0⟩
/-- What is said of a resource. -/
def Dk.chk (D : Dk) (k i g : Int) : Int := if IsLease k i g then D.t.chk i g else 2
/-- The lease with the id i is granted until y. -/
def Dk.until (D : Dk) (i y : Nat) : Dk := ⟨D.t, put D.u i y⟩
/-- What Grant answers, and what it makes of a desk. -/
def Dk.gE (D : Dk) (x now : Int) : Int := if IsSpan x ∧ IsTime now then (if now + x ≤ 1099511627776 then (match D.t.free with | [] => 4 | _ :: _ => 0) else 17) else 2
def Dk.gK (D : Dk) (x now : Int) : Nat := if D.gE x now = 0 then 3 else 0
def Dk.gI (D : Dk) (x now : Int) : Nat := if D.gE x now = 0 then (match D.t.free with | [] => 0 | i :: _ => i) else 0
def Dk.gG (D : Dk) (x now : Int) : Nat := if D.gE x now = 0 then (match D.t.free with | [] => 0 | i :: _ => D.t.g i) else 0
def Dk.took (D : Dk) (i y : Nat) : Dk := ⟨D.t.took i, put D.u i y⟩
def Dk.grant (D : Dk) (x now : Int) : Dk := if D.gE x now = 0 then (match D.t.free with | [] => D | i :: _ => D.took i (now + x).toNat) else D
/-- What Renew answers, and what it makes of a desk. -/
def Dk.rE (D : Dk) (k i g x now : Int) : Int :=
  if IsLease k i g ∧ IsSpan x ∧ IsTime now then (if D.t.chk i g = 0 then (if (D.u i.toNat : Int) ≤ now then 8 else if now + x ≤ 1099511627776 then 0 else 17) else D.t.chk i g) else 2
def Dk.renew (D : Dk) (k i g x now : Int) : Dk := if D.rE k i g x now = 0 then D.until i.toNat (now + x).toNat else D
def Dk.give (D : Dk) (i : Nat) : Dk := ⟨D.t.gave i, D.u⟩
def Dk.ret (D : Dk) (k i g : Int) : Dk := if D.chk k i g = 0 then D.give i.toNat else D
def Dk.til (D : Dk) (k i g : Int) : Nat := if D.chk k i g = 0 then D.u i.toNat else 0
def Dk.oE (D : Dk) (k i g now : Int) : Int := if IsTime now then D.chk k i g else 2
def Dk.ovr (D : Dk) (k i g now : Int) : Bool := if D.oE k i g now = 0 then decide ((D.u i.toNat : Int) ≤ now) else false

theorem dfresh_ok {n g : Nat} (h1 : 1 ≤ n) (h2 : n ≤ 64) (h3 : 1 ≤ g) (h4 : g ≤ 4294967295) : (dfresh n g).Ok := ⟨fresh_ok h1 (by omega) h3 h4, h2, fun _ => Nat.zero_le _⟩
theorem Dk.Ok.until {D : Dk} (h : D.Ok) (i : Nat) {y : Nat} (hy : y ≤ 1099511627776) : (D.until i y).Ok :=
  ⟨h.t, h.hi, fun k => by have := h.u k; simp only [Dk.until, put]; split <;> omega⟩
theorem Dk.Ok.took {D : Dk} (h : D.Ok) (i : Nat) {y : Nat} (hy : y ≤ 1099511627776) : (D.took i y).Ok :=
  ⟨h.t.took i, h.hi, fun k => by have := h.u k; simp only [Dk.took, put]; split <;> omega⟩
theorem Dk.Ok.give {D : Dk} (h : D.Ok) (i : Nat) : (D.give i).Ok := ⟨h.t.gave i, by simp only [Dk.give, Tb.gave_n]; exact h.hi, h.u⟩
theorem Dk.give_n (D : Dk) (i : Nat) : (D.give i).t.n = D.t.n := D.t.gave_n i
theorem Dk.Ok.ret {D : Dk} (h : D.Ok) (k i g : Int) : (D.ret k i g).Ok := by unfold Dk.ret; split; exact h.give _; exact h
theorem Dk.ret_n (D : Dk) (k i g : Int) : (D.ret k i g).t.n = D.t.n := by unfold Dk.ret; split; exact D.give_n _; rfl
theorem Dk.renew_n (D : Dk) (k i g x now : Int) : (D.renew k i g x now).t.n = D.t.n := by unfold Dk.renew; split <;> rfl
theorem Dk.grant_n (D : Dk) (x now : Int) : (D.grant x now).t.n = D.t.n := by
  unfold Dk.grant; split
  · split <;> rfl
  · rfl
theorem Dk.Ok.held_len {D : Dk} (h : D.Ok) : D.t.held.length ≤ 64 := by have := sel_len D.t.s 1 D.t.n; have := h.hi; unfold Tb.held; omega

/-! ### the cases of Grant -/
theorem Dk.gE_arg {D : Dk} {x now : Int} (h : ¬ (IsSpan x ∧ IsTime now)) : D.gE x now = 2 := if_neg h
theorem Dk.gE_over {D : Dk} {x now : Int} (h1 : IsSpan x) (h2 : IsTime now) (h3 : 1099511627776 < now + x) : D.gE x now = 17 := by
  unfold Dk.gE; rw [if_pos ⟨h1, h2⟩, if_neg (by omega)]
theorem Dk.gE_full {D : Dk} {x now : Int} (h1 : IsSpan x) (h2 : IsTime now) (h3 : now + x ≤ 1099511627776) (h4 : D.t.free = []) : D.gE x now = 4 := by
  unfold Dk.gE; rw [if_pos ⟨h1, h2⟩, if_pos h3, h4]
theorem Dk.gE_ok {D : Dk} {x now : Int} (h1 : IsSpan x) (h2 : IsTime now) (h3 : now + x ≤ 1099511627776) {i : Nat} {r : List Nat} (h4 : D.t.free = i :: r) : D.gE x now = 0 := by
  unfold Dk.gE; rw [if_pos ⟨h1, h2⟩, if_pos h3, h4]
theorem Dk.grant_ne {D : Dk} {x now : Int} (h : D.gE x now ≠ 0) : D.grant x now = D ∧ D.gK x now = 0 ∧ D.gI x now = 0 ∧ D.gG x now = 0 := ⟨if_neg h, if_neg h, if_neg h, if_neg h⟩
theorem Dk.grant_zero {D : Dk} {x now : Int} (h : D.gE x now = 0) {i : Nat} {r : List Nat} (h4 : D.t.free = i :: r) : D.grant x now = D.took i (now + x).toNat ∧ D.gK x now = 3 ∧ D.gI x now = i ∧ D.gG x now = D.t.g i := by
  unfold Dk.grant Dk.gK Dk.gI Dk.gG
  rw [if_pos h, if_pos h, if_pos h, if_pos h, h4]
  exact ⟨rfl, rfl, rfl, rfl⟩
theorem Dk.g_cases (D : Dk) (x now : Int) : (¬ (IsSpan x ∧ IsTime now) ∧ D.gE x now = 2) ∨ (IsSpan x ∧ IsTime now ∧ 1099511627776 < now + x ∧ D.gE x now = 17) ∨ (IsSpan x ∧ IsTime now ∧ now + x ≤ 1099511627776 ∧ D.t.free = [] ∧ D.gE x now = 4) ∨ (IsSpan x ∧ IsTime now ∧ now + x ≤ 1099511627776 ∧ ∃ i r, D.t.free = i :: r ∧ D.gE x now = 0) := by
  by_cases h : IsSpan x ∧ IsTime now
  · by_cases h3 : now + x ≤ 1099511627776
    · cases h4 : D.t.free with
      | nil => exact .inr (.inr (.inl ⟨h.1, h.2, h3, rfl, Dk.gE_full h.1 h.2 h3 h4⟩))
      | cons i r => exact .inr (.inr (.inr ⟨h.1, h.2, h3, i, r, rfl, Dk.gE_ok h.1 h.2 h3 h4⟩))
    · exact .inr (.inl ⟨h.1, h.2, by omega, Dk.gE_over h.1 h.2 (by omega)⟩)
  · exact .inl ⟨h, Dk.gE_arg h⟩
theorem Dk.Ok.grant {D : Dk} (h : D.Ok) (x now : Int) : (D.grant x now).Ok := by
  rcases D.g_cases x now with ⟨_, e⟩ | ⟨_, _, _, e⟩ | ⟨_, _, _, _, e⟩ | ⟨_, _, h3, i, r, h4, e⟩
  · rw [(Dk.grant_ne (by omega)).1]; exact h
  · rw [(Dk.grant_ne (by omega)).1]; exact h
  · rw [(Dk.grant_ne (by omega)).1]; exact h
  · rw [(Dk.grant_zero e h4).1]; exact h.took i (by omega)

/-! ### a resource that is a lease, or is not -/
theorem Dk.chk_zero {D : Dk} {k i g : Int} (h : D.chk k i g = 0) : IsLease k i g ∧ D.t.chk i g = 0 := by
  unfold Dk.chk at h
  split at h
  · rename_i h1; exact ⟨h1, h⟩
  · omega
theorem Dk.chk_is {D : Dk} {k i g : Int} (h : D.chk k i g = 0) : k = 3 ∧ ∃ j : Nat, i = j ∧ j < D.t.n ∧ D.t.s j = 1 ∧ g = D.t.g j := by
  obtain ⟨⟨h1, _⟩, h2⟩ := Dk.chk_zero h
  obtain ⟨h3, h4, h5, h6⟩ := Tb.chk_zero h2
  exact ⟨h1, i.toNat, by omega, by omega, h5, h6.symm⟩
theorem Dk.Ok.lease {D : Dk} (h : D.Ok) {i : Nat} (h1 : i < D.t.n) : IsLease 3 i (D.t.g i) := by
  have := h.hi
  have := h.t.g1 i h1
  exact ⟨rfl, by omega, by omega, by omega⟩
theorem Dk.Ok.chk_held {D : Dk} (h : D.Ok) {i : Nat} (h1 : i < D.t.n) (h2 : D.t.s i = 1) : D.chk 3 i (D.t.g i) = 0 := by
  unfold Dk.chk
  rw [if_pos (h.lease h1), Tb.chk_held h1 h2]
theorem Dk.chk_cases (D : Dk) (k i g : Int) : (¬ IsLease k i g ∧ D.chk k i g = 2) ∨ (IsLease k i g ∧ D.chk k i g = D.t.chk i g) := by
  unfold Dk.chk
  by_cases h : IsLease k i g
  · exact .inr ⟨h, if_pos h⟩
  · exact .inl ⟨h, if_neg h⟩

/-! ### the cases of Renew -/
theorem Dk.rE_arg {D : Dk} {k i g x now : Int} (h : ¬ (IsSpan x ∧ IsTime now)) : D.rE k i g x now = 2 := if_neg fun e => h e.2
theorem Dk.rE_chk {D : Dk} {k i g x now : Int} (h1 : IsSpan x) (h2 : IsTime now) (h : D.chk k i g ≠ 0) : D.rE k i g x now = D.chk k i g := by
  unfold Dk.rE
  unfold Dk.chk at h ⊢
  by_cases e : IsLease k i g
  · rw [if_pos e] at h ⊢
    rw [if_pos ⟨e, h1, h2⟩, if_neg h]
  · rw [if_neg e, if_neg fun c => e c.1]
theorem Dk.rE_held {D : Dk} {k i g x now : Int} (h1 : IsSpan x) (h2 : IsTime now) (h : D.chk k i g = 0) : D.rE k i g x now = if (D.u i.toNat : Int) ≤ now then 8 else if now + x ≤ 1099511627776 then 0 else 17 := by
  obtain ⟨h3, h4⟩ := Dk.chk_zero h
  unfold Dk.rE
  rw [if_pos ⟨h3, h1, h2⟩, if_pos h4]
theorem Dk.renew_ne {D : Dk} {k i g x now : Int} (h : D.rE k i g x now ≠ 0) : D.renew k i g x now = D := if_neg h
theorem Dk.rE_zero {D : Dk} {k i g x now : Int} (h : D.rE k i g x now = 0) : D.chk k i g = 0 ∧ IsSpan x ∧ IsTime now ∧ now < D.u i.toNat ∧ now + x ≤ 1099511627776 := by
  by_cases h1 : IsSpan x ∧ IsTime now
  · by_cases h2 : D.chk k i g = 0
    · rw [Dk.rE_held h1.1 h1.2 h2] at h
      split at h
      · omega
      · split at h
        · exact ⟨h2, h1.1, h1.2, by omega, by omega⟩
        · omega
    · rw [Dk.rE_chk h1.1 h1.2 h2] at h; exact absurd h h2
  · rw [Dk.rE_arg h1] at h; omega
theorem Dk.Ok.renew {D : Dk} (h : D.Ok) (k i g x now : Int) : (D.renew k i g x now).Ok := by
  by_cases e : D.rE k i g x now = 0
  · have := (Dk.rE_zero e).2.2.2.2
    unfold Dk.renew
    rw [if_pos e]
    exact h.until _ (by omega)
  · rw [Dk.renew_ne e]; exact h

theorem gave_g_other {T : Tb} {i j : Nat} (h : j ≠ i) : (T.gave i).g j = T.g j := by
  unfold Tb.gave; split
  · rfl
  · exact put_other h
theorem gave_s_other {T : Tb} {i j : Nat} (h : j ≠ i) : (T.gave i).s j = T.s j := by
  unfold Tb.gave; split <;> exact put_other h
theorem gave_s_ne (T : Tb) (i : Nat) : (T.gave i).s i ≠ 1 := by
  unfold Tb.gave; split <;> simp [put_same]
end Go.Proofs.YtpinmiplefidpaaGreatDoor.LS

namespace Go.Proofs.YtpinmiplefidpaaGreatDoor.LS
open Go.RowKit


/-! ### resources in cells -/
/-- The leases: what All returns. -/
def lro (r : Nat × Nat) : Ro := ⟨3, r.1, r.2⟩
def Dk.all (D : Dk) : List Ro := D.t.now.map lro
theorem Dk.all_len (D : Dk) : D.all.length = D.t.held.length := by simp [Dk.all, Tb.now_len]
theorem Dk.all_at {D : Dk} {j : Nat} {o : Ro} (h : D.all[j]? = some o) : ∃ i : Nat, o = ⟨3, i, D.t.g i⟩ ∧ i < D.t.n ∧ D.t.s i = 1 := by
  simp only [Dk.all, List.getElem?_map, Option.map_eq_some_iff] at h
  obtain ⟨r, h1, rfl⟩ := h
  obtain ⟨h2, h3, h4⟩ := Tb.now_at h1
  exact ⟨r.1, by simp [lro, h4], h2, h3⟩

/-! ### slices of resources -/
section
variable {w w' : World} {v : Value} {l : List Ro}
end

/-! ### a desk of the program's -/
/-- The times in cells. -/
def ucells (u : Nat → Nat) : Array Value := ((List.range 64).map (fun j => Value.int .i64 (u j))).toArray
theorem ucells_size (u : Nat → Nat) : (ucells u).size = 64 := by simp [ucells]
theorem ucells_at (u : Nat → Nat) {j : Nat} (h : j < 64) : (ucells u)[j]? = some (.int .i64 (u j)) := by simp [ucells, h]
theorem ucells_put (u : Nat → Nat) (i y : Nat) : (ucells u).setIfInBounds i (.int .i64 y) = ucells (put u i y) := by
  refine Array.ext_getElem? fun j => ?_
  rw [Array.getElem?_setIfInBounds]
  by_cases hj : j < 64
  · rw [ucells_at (put u i y) hj, ucells_at u hj, ucells_size]
    by_cases e : i = j
    · subst e; rw [if_pos rfl, if_pos hj, put_same]
    · rw [if_neg e, put_other (fun c => e c.symm)]
  · have h1 : (ucells (put u i y))[j]? = none := by rw [Array.getElem?_eq_none]; rw [ucells_size]; omega
    have h2 : (ucells u)[j]? = none := by rw [Array.getElem?_eq_none]; rw [ucells_size]; omega
    rw [h1, h2, ucells_size]
    by_cases e : i = j
    · rw [if_pos e, if_neg (by omega)]
    · rw [if_neg e]
theorem ucells_one (u : Nat → Nat) : (ucells u).all (·.oneCell') = true := by
  rw [Array.all_eq_true_iff_forall_mem]
  intro v hv
  obtain ⟨j, _, rfl⟩ := List.mem_map.1 (show v ∈ (List.range 64).map (fun j => Value.int .i64 (u j)) by simpa [ucells] using hv)
  rfl

/-- The desk at b, its table of slots at k, its times at a. -/
structure DkW (w : World) (b k a : Nat) (D : Dk) : Prop where
  ok : D.Ok
  hb : Bk w b 163 #[.pointer (some ⟨k, 0, none⟩), .pointer (some ⟨a, 0, none⟩)]
  ha : Bk w a 161 (ucells D.u)
  tab : TabW w k D.t
def DFoot (b k a : Nat) (g : Nat) : Prop := g = b ∨ g = k ∨ g = a
section
variable {w w' : World} {b k a : Nat} {D : Dk}
theorem DkW.foot_lt (h : DkW w b k a D) {g : Nat} (hg : DFoot b k a g) : g < w.heap.size := by
  rcases hg with rfl | rfl | rfl
  · exact h.hb.lt
  · exact h.tab.bt
  · exact h.ha.lt
theorem DkW.same (h : DkW w b k a D) (e : ∀ g, DFoot b k a g → w'.heap[g]? = w.heap[g]?) : DkW w' b k a D := ⟨h.ok, h.hb.same (e b (.inl rfl)), h.ha.same (e a (.inr (.inr rfl))), h.tab.same (e k (.inr (.inl rfl)))⟩
theorem DkW.kept {S : Nat → Prop} (h : DkW w b k a D) (q : Kept S w w') (hs : ∀ g, DFoot b k a g → ¬ S g) : DkW w' b k a D := h.same fun g hg => q.block g (h.foot_lt hg) (hs g hg)
theorem DkW.below (h : DkW w b k a D) (q : Below w.heap.size w w') : DkW w' b k a D := h.same fun g hg => q.block g (h.foot_lt hg)
theorem DkW.drewN (h : DkW w b k a D) (n : Nat) : DkW (w.drewN n) b k a D := h.same fun _ _ => rfl
theorem DkW.bk (h : DkW w b k a D) : b ≠ k := by rintro rfl; exact absurd (h.hb.uniq h.tab.bk).1 (by decide)
theorem DkW.ba (h : DkW w b k a D) : b ≠ a := by rintro rfl; exact absurd (h.hb.uniq h.ha).1 (by decide)
theorem DkW.ka (h : DkW w b k a D) : k ≠ a := by rintro rfl; exact absurd (h.tab.bk.uniq h.ha).1 (by decide)
theorem DkW.c0 (h : DkW w b k a D) : w.cell? ⟨b, 0, none⟩ = some (.pointer (some ⟨k, 0, none⟩)) := h.hb.cell 0
theorem DkW.c1 (h : DkW w b k a D) : w.cell? ⟨b, 1, none⟩ = some (.pointer (some ⟨a, 0, none⟩)) := h.hb.cell 1
theorem DkW.ca (h : DkW w b k a D) {i : Nat} (hi : i < 64) : w.cell? ⟨a, i, none⟩ = some (.int .i64 (D.u i)) := by rw [h.ha.cell, ucells_at _ hi]
theorem DkW.fz (h : DkW w b k a D) (i : Nat) : w.frozen? ⟨a, i, none⟩ = false := h.ha.frozen i
end
/-- A desk that New or Copy did not make: nil, or the zero one. -/
def DInv (w : World) (v : Option Addr) : Prop := v = none ∨ ∃ b, v = some ⟨b, 0, none⟩ ∧ Bk w b 163 #[.pointer none, .pointer none]
theorem DInv.below {w w' : World} {v : Option Addr} (h : DInv w v) (hb : Below w.heap.size w w') : DInv w' v := by
  rcases h with rfl | ⟨b, rfl, h⟩
  · exact .inl rfl
  · exact .inr ⟨b, rfl, h.below hb⟩
end Go.Proofs.YtpinmiplefidpaaGreatDoor.LS

namespace Go.Proofs.YtpinmiplefidpaaGreatDoor.LS
open Go.RowKit







end Go.Proofs.YtpinmiplefidpaaGreatDoor.LS

namespace Go.Proofs.YtpinmiplefidpaaGreatDoor.LS
open Go.RowKit

/-! ### valid, isSpan, isTime, lease -/
set_option maxRecDepth 100000 in
theorem dvalid_no (p : Option Addr) (w : World) (h : DInv w p) : Calls Tryz.prog 140 #[.pointer p] w fun e w' => e = .returned (.bool false) ∧ w = w' := by
  rcases h with rfl | ⟨b, rfl, h⟩
  · go_enter Tryz.func140, Tryz.ntmps140
    go_wp2
    go_ret
    exact ⟨rfl, rfl⟩
  · have hc : w.cell? ⟨b, 0, none⟩ = some (.pointer none) := h.cell 0
    clear h
    go_enter Tryz.func140, Tryz.ntmps140
    go_wp2
    go_ret
    exact ⟨rfl, rfl⟩
set_option maxRecDepth 100000 in
theorem dvalid_yes (b k : Nat) (w : World) (hc : w.cell? ⟨b, 0, none⟩ = some (.pointer (some ⟨k, 0, none⟩))) : Calls Tryz.prog 140 #[.pointer (some ⟨b, 0, none⟩)] w fun e w' => e = .returned (.bool true) ∧ w = w' := by
  go_enter Tryz.func140, Tryz.ntmps140
  go_wp2
  go_ret
  exact ⟨rfl, rfl⟩
set_option maxRecDepth 100000 in
theorem span_yes (x : Int) (w : World) (h : IsSpan x) : Calls Tryz.prog 120 #[.int .i64 x] w fun e w' => e = .returned (.bool true) ∧ w = w' := by
  obtain ⟨h1, h2⟩ := h
  go_enter Tryz.func120, Tryz.ntmps120
  go_wp2
  go_ret
  exact ⟨rfl, rfl⟩
set_option maxRecDepth 100000 in
theorem span_no (x : Int) (w : World) (h : ¬ IsSpan x) : Calls Tryz.prog 120 #[.int .i64 x] w fun e w' => e = .returned (.bool false) ∧ w = w' := by
  unfold IsSpan at h
  by_cases h1 : x < 1
  · clear h
    go_enter Tryz.func120, Tryz.ntmps120
    go_wp2
    go_ret
    exact ⟨rfl, rfl⟩
  · have h2 : 1048576 < x := by omega
    have h3 : 1 ≤ x := by omega
    clear h h1
    go_enter Tryz.func120, Tryz.ntmps120
    go_wp2
    go_ret
    exact ⟨by simp; omega, rfl⟩
set_option maxRecDepth 100000 in
theorem time_yes (x : Int) (w : World) (h : IsTime x) : Calls Tryz.prog 121 #[.int .i64 x] w fun e w' => e = .returned (.bool true) ∧ w = w' := by
  obtain ⟨h1, h2⟩ := h
  go_enter Tryz.func121, Tryz.ntmps121
  go_wp2
  go_ret
  exact ⟨rfl, rfl⟩
set_option maxRecDepth 100000 in
theorem time_no (x : Int) (w : World) (h : ¬ IsTime x) : Calls Tryz.prog 121 #[.int .i64 x] w fun e w' => e = .returned (.bool false) ∧ w = w' := by
  unfold IsTime at h
  by_cases h1 : x < 0
  · clear h
    go_enter Tryz.func121, Tryz.ntmps121
    go_wp2
    go_ret
    exact ⟨rfl, rfl⟩
  · have h2 : 1099511627776 < x := by omega
    have h3 : 0 ≤ x := by omega
    clear h h1
    go_enter Tryz.func121, Tryz.ntmps121
    go_wp2
    go_ret
    exact ⟨by simp; omega, rfl⟩
theorem span_is (x : Int) (b : Bool) (w : World) (h : decide (IsSpan x) = b) : Calls Tryz.prog 120 #[.int .i64 x] w fun e w' => e = .returned (.bool b) ∧ w = w' := by
  cases b with
  | true => exact span_yes x w (by simpa using h)
  | false => exact span_no x w (by simpa using h)
theorem time_is (x : Int) (b : Bool) (w : World) (h : decide (IsTime x) = b) : Calls Tryz.prog 121 #[.int .i64 x] w fun e w' => e = .returned (.bool b) ∧ w = w' := by
  cases b with
  | true => exact time_yes x w (by simpa using h)
  | false => exact time_no x w (by simpa using h)
set_option maxRecDepth 100000 in
theorem lease_ok (i g : Int) (w : World) (_g0 : 0 ≤ g) (_g1 : g ≤ 4294967295) (_i0 : 0 ≤ i) (_i1 : i ≤ 256) :
    Calls Tryz.prog 181 #[.agg #[.int .i64 i, .int .u32 g]] w fun e w' => e = .returned (.agg #[.int .i64 3, .int .i64 i, .int .u32 g]) ∧ Below w.heap.size w w' := by
  go_enter Tryz.func181, Tryz.ntmps181
  go_wp2
  refine bodyPost_ret (v := .agg #[.int .i64 3, .int .i64 i, .int .u32 g]) (by simp [results, Tryz.results181, go_sem]) rfl ⟨rfl, ?_⟩
  exact ((Below.refl _ _).alloc (Nat.le_refl _) _).alloc (by simp) _

/-! ### over -/
theorem bel_two (w : World) (o q : Obj) : Below w.heap.size w ((w.alloc o).alloc q) := bel_alloc ((Below.refl _ w).alloc (Nat.le_refl _) _) _
set_option maxRecDepth 100000 in
theorem over_core (b a i : Nat) (g now : Int) (x : Int) (r : Bool) (w : World) (hi : i < 64) (h1 : w.cell? ⟨b, 1, none⟩ = some (.pointer (some ⟨a, 0, none⟩))) (h2 : w.cell? ⟨a, i, none⟩ = some (.int .i64 x)) (hr : decide (x ≤ now) = r) :
    Calls Tryz.prog 123 #[.pointer (some ⟨b, 0, none⟩), .agg #[.int .i64 i, .int .u32 g], .int .i64 now] w fun e w' => e = .returned (.bool r) ∧ Below w.heap.size w w' := by
  have hbl : b < w.heap.size := World.block_lt_of_cell? _ _ h1
  have hal : a < w.heap.size := World.block_lt_of_cell? _ _ h2
  have hiz : (i : Int) < 64 := by omega
  have c1 := cell_keeps ((Below.refl _ w).alloc (Nat.le_refl _) (.cells #[.int .i64 i, .int .u32 g] 193)) h1
  have c2 := cell_keeps ((Below.refl _ w).alloc (Nat.le_refl _) (.cells #[.int .i64 i, .int .u32 g] 193)) h2
  clear h1 h2
  have HR := Lib.hid hr
  clear hr
  go_enter Tryz.func123, Tryz.ntmps123
  go_wp2
  go_quiet (fail)
  go_wp2
  go_ret
  exact ⟨by rw [← HR.out]; rfl, bel_drewN ((Below.refl _ _).alloc (Nat.le_refl _) _) _⟩

/-! ### New -/
theorem zero_times (w : World) : (zeroValue 161).run Tryz.prog w = .ok (.agg (ucells (fun _ => 0))) w := by kernel_rfl
theorem ucells_ne (u : Nat → Nat) : ¬ ucells u = #[] := fun h => by have := congrArg Array.size h; rw [ucells_size] at this; simp at this
/-- A new desk. -/
def DNew (D : Dk) (w : World) (b : Nat) (w' : World) : Prop := ∃ k a, DkW w' b k a D ∧ (∀ g, DFoot b k a g → w.heap.size ≤ g) ∧ Below w.heap.size w w'
theorem dnew_fin {w W : World} {D : Dk} {k : Nat} (hD : D.Ok) (hB : Below w.heap.size w W) (hk : w.heap.size ≤ k) (hT : TabW W k D.t) :
    DNew D w (W.heap.size + 1) ((W.alloc (.cells (ucells D.u) 161)).alloc (.cells #[.pointer (some ⟨k, 0, none⟩), .pointer (some ⟨W.heap.size, 0, none⟩)] 163)) := by
  have b1 := Bk.new W 161 (ucells D.u)
  have b2 := Bk.new (W.alloc (.cells (ucells D.u) 161)) 163 #[.pointer (some ⟨k, 0, none⟩), .pointer (some ⟨W.heap.size, 0, none⟩)]
  rw [World.size_alloc] at b2
  have hs := hB.size
  have hb2 := bel_two W (.cells (ucells D.u) 161) (.cells #[.pointer (some ⟨k, 0, none⟩), .pointer (some ⟨W.heap.size, 0, none⟩)] 163)
  refine ⟨k, W.heap.size, ⟨hD, b2, b1.up _, hT.below hb2⟩, ?_, hB.trans (hb2.mono hs)⟩
  rintro x (rfl | rfl | rfl)
  · omega
  · exact hk
  · exact hs
set_option maxRecDepth 100000 in
set_option maxHeartbeats 1000000 in
theorem dnew_ok (n g : Nat) (w : World) (h1 : 1 ≤ n) (h2 : n ≤ 64) (h3 : 1 ≤ g) (h4 : g ≤ 4294967295) :
    Calls Tryz.prog 53 #[.int .i64 n, .int .u32 g] w fun e w' => ∃ b, e = .returned (.tuple #[.pointer (some ⟨b, 0, none⟩), .int .i64 0]) ∧ DNew (dfresh n g) w b w' := by
  have hz := zero_times
  obtain ⟨zs, hzs⟩ : ∃ zs, ucells (fun _ => 0) = zs := ⟨_, rfl⟩
  have hsz : zs.size = 64 := by rw [← hzs]; exact ucells_size _
  have hne : ¬ zs = #[] := by rw [← hzs]; exact ucells_ne _
  simp only [hzs] at hz
  have NW := Lib.hid (new_ok n g w h1 (by omega) h3 h4)
  have FIN : Hid (∀ W, Below w.heap.size w W → TabW W w.heap.size (fresh n g) → DNew (dfresh n g) w (W.heap.size + 1) ((W.alloc (.cells zs 161)).alloc (.cells #[.pointer (some ⟨w.heap.size, 0, none⟩), .pointer (some ⟨W.heap.size, 0, none⟩)] 163))) := fun W hB hT => by
    have := dnew_fin (D := dfresh n g) (dfresh_ok h1 h2 h3 h4) hB (Nat.le_refl _) hT
    rw [← hzs]; exact this
  clear hzs
  go_enter Tryz.func53, Tryz.ntmps53
  go_wp2_with (go_at_call 104; refine NW.out.mono ?_; rintro e w1 ⟨rfl, hT, hB⟩; have HF := Lib.hid (FIN.out w1 hB hT); clear hT hB)
  go_ret2
  exact ⟨_, rfl, HF.out⟩
/-- New where the arguments are not possible. -/
def DBad (n g : Int) : Prop := n < 1 ∨ 64 < n ∨ g = 0
set_option maxRecDepth 100000 in
theorem dnew_bad (n g : Int) (w : World) (hn : I64 n) (hg : 0 ≤ g ∧ g ≤ 4294967295) (h : DBad n g) :
    Calls Tryz.prog 53 #[.int .i64 n, .int .u32 g] w fun e w' => e = .returned (.tuple #[.pointer none, .int .i64 2]) ∧ w = w' := by
  obtain ⟨n0, n1⟩ := hn
  obtain ⟨g0, g1⟩ := hg
  by_cases c : 64 < n
  · go_enter Tryz.func53, Tryz.ntmps53
    go_wp2
    go_ret2
    exact ⟨rfl, rfl⟩
  · have NW : Hid (Calls Tryz.prog 104 #[.int .i64 n, .int .u32 g] w fun e w' => e = .returned (.tuple #[.pointer none, .int .i64 2]) ∧ w = w') := by
      by_cases c1 : n < 1
      · exact new_arg1 n g w (.inl c1)
      · obtain rfl : g = 0 := by unfold DBad at h; omega
        exact new_arg2 n w (by omega) (by omega)
    go_enter Tryz.func53, Tryz.ntmps53
    go_wp2_with (go_at_call 104; refine NW.out.mono ?_; rintro e w1 ⟨rfl, rfl⟩)
    go_ret2
    exact ⟨rfl, rfl⟩

/-! ### Len -/

/-! ### Copy -/
set_option maxRecDepth 100000 in
theorem dcopy_no (p : Option Addr) (w : World) (h : DInv w p) : Calls Tryz.prog 213 #[.pointer p] w fun e w' => e = .returned (.pointer none) ∧ w = w' := by
  have H := Lib.hid h
  clear h
  go_enter Tryz.func213, Tryz.ntmps213
  go_wp2_with (go_at_call 140; refine (dvalid_no _ _ H.out).mono ?_; rintro e w' ⟨rfl, rfl⟩)
  go_ret
  exact ⟨rfl, rfl⟩
theorem box_of {w w2 : World} {t : TypeId} {cs : Array Value} (hb : Below (w.alloc (.cells cs t)).heap.size (w.alloc (.cells cs t)) w2) : Bk w2 w.heap.size t cs := (Bk.new w t cs).below hb
theorem dcopy_fin {w w2 : World} {D : Dk} {k' : Nat} (hD : D.Ok) (hB : Below (w.alloc (.cells (ucells D.u) 161)).heap.size (w.alloc (.cells (ucells D.u) 161)) w2)
    (hk : w.heap.size < k') (hT : TabW w2 k' D.t) : DNew D w w2.heap.size (w2.alloc (.cells #[.pointer (some ⟨k', 0, none⟩), .pointer (some ⟨w.heap.size, 0, none⟩)] 163)) := by
  have b1 := box_of hB
  have hs := hB.size
  rw [World.size_alloc] at hs
  have B0 : Below w.heap.size w w2 := bel2 ((Below.refl _ w).alloc (Nat.le_refl _) _) hB
  refine ⟨k', w.heap.size, ⟨hD, Bk.new w2 _ _, b1.up _, hT.same (Below.heap_alloc _ _ _ hT.bt)⟩, ?_, bel_alloc B0 _⟩
  rintro g (rfl | rfl | rfl)
  · omega
  · omega
  · omega
set_option maxRecDepth 100000 in
set_option maxHeartbeats 1000000 in
theorem dcopy_ok (b k a : Nat) (D : Dk) (w : World) (h : DkW w b k a D) : Calls Tryz.prog 213 #[.pointer (some ⟨b, 0, none⟩)] w fun e w' => ∃ b', e = .returned (.pointer (some ⟨b', 0, none⟩)) ∧ DNew D w b' w' := by
  have hz := zero_times
  obtain ⟨zs, hzs⟩ : ∃ zs, ucells (fun _ => 0) = zs := ⟨_, rfl⟩
  have hsz : zs.size = 64 := by rw [← hzs]; exact ucells_size _
  have hne : ¬ zs = #[] := by rw [← hzs]; exact ucells_ne _
  simp only [hzs] at hz
  obtain ⟨cs, hcs⟩ : ∃ cs, ucells D.u = cs := ⟨_, rfl⟩
  have hcz : cs.size = 64 := by rw [← hcs]; exact ucells_size _
  have hst := run_storeCells_new (P := Tryz.prog) w 161 zs cs (by rw [hcz]; kernel_rfl) (by rw [hcz, hsz]) (by rw [← hcs]; exact ucells_one _)
  have HB : Hid (Bk w a 161 cs) := by rw [← hcs]; exact h.ha
  have hb := h.c0
  have hb1 := h.c1
  have KB : Hid (∀ w2, Below w.heap.size w w2 → w2.cell? ⟨b, 0, none⟩ = some (.pointer (some ⟨k, 0, none⟩))) := fun w2 h2 => (h.below h2).c0
  have hc3 := KB.out _ ((Below.refl _ w).alloc (Nat.le_refl _) (.cells cs 161))
  have CP : Hid (∀ W n, Below w.heap.size w W → W.heap.size = n → Calls Tryz.prog 192 #[.pointer (some ⟨k, 0, none⟩)] W fun e w' => e = .returned (.pointer (some ⟨n, 0, none⟩)) ∧ TabW w' n D.t ∧ Below W.heap.size W w') := fun W n hW hn => by rw [← hn]; exact copy_ok k D.t W (h.below hW).tab
  have FIN : Hid (∀ w2, Below (w.alloc (.cells cs 161)).heap.size (w.alloc (.cells cs 161)) w2 → TabW w2 (w.heap.size + 1) D.t → DNew D w w2.heap.size (w2.alloc (.cells #[.pointer (some ⟨w.heap.size + 1, 0, none⟩), .pointer (some ⟨w.heap.size, 0, none⟩)] 163))) := fun w2 h1 h2 => by
    rw [← hcs] at h1
    exact dcopy_fin h.ok h1 (Nat.lt_succ_self _) h2
  clear hzs h hcs
  go_enter Tryz.func213, Tryz.ntmps213
  go_wp2_with (first
    | (go_at_call 140; refine (dvalid_yes _ k _ hb).mono ?_; rintro e w' ⟨rfl, rfl⟩)
    | (refine wpList_load_row rfl 161 _ rfl a rfl _ cs _ _ HB.out Tryz.underlying161 rfl (by rw [hcz]; kernel_rfl) ?_)
    | (go_at_call 192; refine (CP.out _ (w.heap.size + 1) ((Below.refl _ w).alloc (Nat.le_refl _) _) (by rw [World.size_alloc])).mono ?_; rintro e w2 ⟨rfl, hT, hB⟩; have HF := Lib.hid (FIN.out w2 hB hT); clear hT hB))
  go_ret
  exact ⟨_, rfl, HF.out⟩
end Go.Proofs.YtpinmiplefidpaaGreatDoor.LS

namespace Go.Proofs.YtpinmiplefidpaaGreatDoor.LS
open Go.RowKit

theorem IsLease.okn {k i g : Int} (h : IsLease k i g) (hr : RgO k i g) : k = 3 ∧ ∃ i' g' : Nat, i = i' ∧ g = g' ∧ Okn 64 3 i' g' := by
  obtain ⟨h1, h2, h3, h4⟩ := h
  have := hr.g0
  have := hr.g1
  exact ⟨h1, i.toNat, g.toNat, by omega, by omega, ⟨by omega, by omega, by omega, by omega, by omega⟩⟩
theorem not_lease {k i g : Int} (h : ¬ IsLease k i g) (hr : RgO k i g) : Bad 64 k i g ∨ (k ≠ 3 ∧ ∃ k' i' g' : Nat, k = k' ∧ i = i' ∧ g = g' ∧ Okn 64 k' i' g') := by
  rcases ok_or (n := 64) hr with ⟨k', i', g', rfl, rfl, rfl, ho⟩ | hb
  · refine .inr ⟨fun e => h ⟨e, ?_, ?_, ?_⟩, k', i', g', rfl, rfl, rfl, ho⟩ <;> (have := ho.2.2.1; have := ho.2.2.2.1; omega)
  · exact .inl hb
theorem box_o {w w2 : World} {x y z : Int} (hb : Below (w.alloc (.cells #[.int .i64 x, .int .i64 y, .int .u32 z] 25)).heap.size (w.alloc (.cells #[.int .i64 x, .int .i64 y, .int .u32 z] 25)) w2) :
    w2.cell? ⟨w.heap.size, 0, none⟩ = some (.int .i64 x) ∧ w2.cell? ⟨w.heap.size, 1, none⟩ = some (.int .i64 y) ∧ w2.cell? ⟨w.heap.size, 2, none⟩ = some (.int .u32 z) ∧ w.heap.size < w2.heap.size := by
  have h := (Bk.new w 25 #[.int .i64 x, .int .i64 y, .int .u32 z]).below hb
  exact ⟨h.cell 0, h.cell 1, h.cell 2, h.lt⟩

/-! ### found, where nothing follows -/
set_option maxHeartbeats 1000000 in
set_option maxRecDepth 100000 in
theorem found_inv (p : Option Addr) (x y z : Int) (r : Bool) (fv : Value) (w : World) (h : DInv w p) : Calls Tryz.prog 119 #[.pointer p, .agg #[.int .i64 x, .int .i64 y, .int .u32 z], .bool r, fv] w fun e w' => e = .returned (.int .i64 1) ∧ Below w.heap.size w w' := by
  have H := Lib.hid (h.below ((Below.refl _ w).alloc (Nat.le_refl _) (.cells #[.int .i64 x, .int .i64 y, .int .u32 z] 25)))
  clear h
  go_enter Tryz.func119, Tryz.ntmps119
  go_wp2_with (go_at_call 140; refine (dvalid_no _ _ H.out).mono ?_; rintro e w' ⟨rfl, rfl⟩)
  go_ret
  exact ⟨rfl, (Below.refl _ _).alloc (Nat.le_refl _) _⟩
set_option maxHeartbeats 1000000 in
set_option maxRecDepth 100000 in
theorem found_bad (b k : Nat) (x y z : Int) (r : Bool) (hr : RgO x y z) (hf : ¬ IsLease x y z) (fv : Value) (w : World) (hc : w.cell? ⟨b, 0, none⟩ = some (.pointer (some ⟨k, 0, none⟩))) : Calls Tryz.prog 119 #[.pointer (some ⟨b, 0, none⟩), .agg #[.int .i64 x, .int .i64 y, .int .u32 z], .bool r, fv] w fun e w' => e = .returned (.int .i64 2) ∧ Below w.heap.size w w' := by
  rcases not_lease hf hr with hb | ⟨hk, k', i', g', rfl, rfl, rfl, ho⟩
  · have HR := Lib.hid hr
    have HH := Lib.hid hb
    clear hr hf hb
    go_enter Tryz.func119, Tryz.ntmps119
    go_wp2_with (first
      | (go_at_call 140; refine (dvalid_yes _ k _ (cell_keeps ((Below.refl _ w).alloc (Nat.le_refl _) _) hc)).mono ?_; rintro e w' ⟨rfl, rfl⟩)
      | (go_at_call 43; refine (ochk_bad _ _ _ HR.out HH.out _).mono ?_; rintro e w2 ⟨rfl, hb2⟩; have HB := Lib.hid hb2; clear hb2))
    go_ret
    exact ⟨rfl, bel2 ((Below.refl _ _).alloc (Nat.le_refl _) _) HB.out⟩
  · have HH := Lib.hid ho
    clear hr hf ho
    go_enter Tryz.func119, Tryz.ntmps119
    go_wp2_with (first
      | (go_at_call 140; refine (dvalid_yes _ k _ (cell_keeps ((Below.refl _ w).alloc (Nat.le_refl _) _) hc)).mono ?_; rintro e w' ⟨rfl, rfl⟩)
      | (go_at_call 43; refine (ochk_ok _ _ _ HH.out _).mono ?_; rintro e w2 ⟨rfl, hb2⟩; have HB := Lib.hid hb2; have hc2 := (bcell hb2).1 w.heap.size 0 (by simp); clear hb2))
    go_ret
    exact ⟨rfl, bel2 ((Below.refl _ _).alloc (Nat.le_refl _) _) HB.out⟩
set_option maxHeartbeats 1000000 in
set_option maxRecDepth 100000 in
theorem found_not (b k : Nat) (x y z : Int) (hr : RgO x y z) (fv : Value) (w : World) (hc : w.cell? ⟨b, 0, none⟩ = some (.pointer (some ⟨k, 0, none⟩))) : Calls Tryz.prog 119 #[.pointer (some ⟨b, 0, none⟩), .agg #[.int .i64 x, .int .i64 y, .int .u32 z], .bool false, fv] w fun e w' => e = .returned (.int .i64 2) ∧ Below w.heap.size w w' := by
  by_cases hf : IsLease x y z
  · obtain ⟨rfl, i', g', rfl, rfl, ho⟩ := hf.okn hr
    have HH := Lib.hid ho
    clear hr hf ho
    go_enter Tryz.func119, Tryz.ntmps119
    go_wp2_with (first
      | (go_at_call 140; refine (dvalid_yes _ k _ (cell_keeps ((Below.refl _ w).alloc (Nat.le_refl _) _) hc)).mono ?_; rintro e w' ⟨rfl, rfl⟩)
      | (go_at_call 43; refine (ochk_ok _ _ _ HH.out _).mono ?_; rintro e w2 ⟨rfl, hb2⟩; have HB := Lib.hid hb2; have hc2 := (bcell hb2).1 w.heap.size 0 (by simp); clear hb2))
    go_ret
    exact ⟨rfl, bel2 ((Below.refl _ _).alloc (Nat.le_refl _) _) HB.out⟩
  · exact found_bad b k x y z false hr hf fv w hc
set_option maxHeartbeats 1000000 in
set_option maxRecDepth 100000 in
theorem found_stale (b k a : Nat) (D : Dk) (x y z E : Int) (hr : RgO x y z) (hf : IsLease x y z) (hE : D.t.chk y z = E) (h0 : E ≠ 0) (fv : Value) (w : World) (h : DkW w b k a D) : Calls Tryz.prog 119 #[.pointer (some ⟨b, 0, none⟩), .agg #[.int .i64 x, .int .i64 y, .int .u32 z], .bool true, fv] w fun e w' => e = .returned (.int .i64 E) ∧ Below w.heap.size w w' := by
  obtain ⟨rfl, i', g', rfl, rfl, ho⟩ := hf.okn hr
  have hE0 : (E != 0) = true := by simpa using h0
  have hc := h.c0
  have CK : Hid (∀ W, Below w.heap.size w W → Calls Tryz.prog 141 #[.pointer (some ⟨k, 0, none⟩), .agg #[.int .i64 i', .int .u32 g']] W fun e w' => e = .returned (.int .i64 E) ∧ Below W.heap.size W w') := fun W hW => by
    have := check_any k D.t i' g' W (h.below hW).tab
    rw [hE] at this; exact this
  have HC : Hid (∀ W, Below w.heap.size w W → W.cell? ⟨b, 0, none⟩ = some (.pointer (some ⟨k, 0, none⟩))) := fun W hW => (h.below hW).c0
  have HH := Lib.hid ho
  clear hr hf ho h hE h0
  go_enter Tryz.func119, Tryz.ntmps119
  go_wp2_with (first
    | (go_at_call 140; refine (dvalid_yes _ k _ (cell_keeps ((Below.refl _ w).alloc (Nat.le_refl _) _) hc)).mono ?_; rintro e w' ⟨rfl, rfl⟩)
    | (go_at_call 43; refine (ochk_ok _ _ _ HH.out _).mono ?_; rintro e w2 ⟨rfl, hb2⟩; have HB := Lib.hid (bel2 ((Below.refl _ _).alloc (Nat.le_refl _) _) hb2); obtain ⟨q0, q1, q2, hl2⟩ := box_o hb2; have hc3 := HC.out w2 HB.out; clear hb2))
  have hbl : b < w2.heap.size := World.block_lt_of_cell? _ _ hc3
  have S0 : (w2.alloc (.cells #[.int .i64 i', .int .u32 g'] 193)).cell? ⟨b, 0, none⟩ = some (.pointer (some ⟨k, 0, none⟩)) ∧ (w2.alloc (.cells #[.int .i64 i', .int .u32 g'] 193)).cell? ⟨w2.heap.size, 0, none⟩ = some (.int .i64 i') ∧ (w2.alloc (.cells #[.int .i64 i', .int .u32 g'] 193)).cell? ⟨w2.heap.size, 1, none⟩ = some (.int .u32 g') := by
    have hn := Bk.new w2 193 #[.int .i64 i', .int .u32 g']
    exact ⟨cell_keeps ((Below.refl _ w2).alloc (Nat.le_refl _) _) hc3, hn.cell 0, hn.cell 1⟩
  have B0 := Lib.hid (bel_drew (bel_alloc HB.out (.cells #[.int .i64 i', .int .u32 g'] 193)))
  generalize (w2.alloc (.cells #[.int .i64 i', .int .u32 g'] 193)) = w4 at *
  obtain ⟨s0, s1, s2⟩ := S0
  go_region_held3 (fun W => W.cell? ⟨b, 0, none⟩ = some (.pointer (some ⟨k, 0, none⟩)) ∧ W.cell? ⟨w2.heap.size, 0, none⟩ = some (.int .i64 i') ∧ W.cell? ⟨w2.heap.size, 1, none⟩ = some (.int .u32 g')) (first | (exact ⟨s0, s1, s2⟩) | (with_reducible exact hz1)) (first
    | (go_at_call 141; (with_reducible refine (CK.out _ B0.out).mono ?_); rintro e w5 ⟨rfl, hb5⟩; have HB5 := Lib.hid (bel2 B0.out hb5); have hz1 := And.intro (cell_keeps hb5 s0) (And.intro (cell_keeps hb5 s1) (cell_keeps hb5 s2)); clear hb5))
  all_goals
    go_wp2
    go_ret
    exact ⟨rfl, HB5.out⟩
/-- found, where a resource is no lease that is there. -/
theorem found_no (b k a : Nat) (D : Dk) (x y z : Int) (hr : RgO x y z) (h0 : D.chk x y z ≠ 0) (fv : Value) (w : World) (h : DkW w b k a D) : Calls Tryz.prog 119 #[.pointer (some ⟨b, 0, none⟩), .agg #[.int .i64 x, .int .i64 y, .int .u32 z], .bool true, fv] w fun e w' => e = .returned (.int .i64 (D.chk x y z)) ∧ Below w.heap.size w w' := by
  rcases D.chk_cases x y z with ⟨h1, h2⟩ | ⟨h1, h2⟩
  · rw [h2]; exact found_bad b k x y z true hr h1 fv w h.c0
  · rw [h2] at h0 ⊢
    exact found_stale b k a D x y z _ hr h1 rfl h0 fv w h

/-! ### found, with what follows -/
set_option maxHeartbeats 1000000 in
set_option maxRecDepth 100000 in
theorem found_renew (A1 A2 A3 : Addr) (b k a i : Nat) (D : Dk) (E : Int) (Q : World → Prop) (w : World) (h : DkW w b k a D) (hi : i < D.t.n) (hs : D.t.s i = 1)
    (CL : ∀ W, Below w.heap.size w W → Calls Tryz.prog 122 #[.agg #[.int .i64 i, .int .u32 (D.t.g i)], .pointer (some A1), .pointer (some A2), .pointer (some A3)] W fun e w' => e = .returned (.int .i64 E) ∧ Hid (Q w')) :
    Calls Tryz.prog 119 #[.pointer (some ⟨b, 0, none⟩), .agg #[.int .i64 3, .int .i64 i, .int .u32 (D.t.g i)], .bool true, .func (.func 122) #[] #[.pointer (some A1), .pointer (some A2), .pointer (some A3)]] w fun e w' => e = .returned (.int .i64 E) ∧ Hid (Q w') := by
  obtain ⟨g', hg⟩ : ∃ z, D.t.g i = z := ⟨_, rfl⟩
  obtain ⟨i', hi'⟩ : ∃ j, i = j := ⟨_, rfl⟩
  have ho : Okn 64 3 i' g' := by
    have a1 := h.ok.hi
    have a2 := h.ok.t.g1 i hi
    have a3 := h.ok.t.gm i
    exact ⟨by omega, by omega, by omega, by omega, by omega⟩
  have hE : D.t.chk i' g' = 0 := by rw [← hi', ← hg]; exact Tb.chk_held hi hs
  have HCL := Lib.hid CL
  rw [hg] at HCL ⊢
  rw [hi'] at HCL ⊢
  have hc := h.c0
  have CK : Hid (∀ W, Below w.heap.size w W → Calls Tryz.prog 141 #[.pointer (some ⟨k, 0, none⟩), .agg #[.int .i64 i', .int .u32 g']] W fun e w' => e = .returned (.int .i64 0) ∧ Below W.heap.size W w') := fun W hW => by
    have := check_any k D.t i' g' W (h.below hW).tab
    rw [hE] at this; exact this
  have HC : Hid (∀ W, Below w.heap.size w W → W.cell? ⟨b, 0, none⟩ = some (.pointer (some ⟨k, 0, none⟩))) := fun W hW => (h.below hW).c0
  have HH := Lib.hid ho
  clear ho h hE hi hs CL hi' hg
  go_enter Tryz.func119, Tryz.ntmps119
  go_wp2_with (first
    | (go_at_call 140; refine (dvalid_yes _ k _ (cell_keeps ((Below.refl _ w).alloc (Nat.le_refl _) _) hc)).mono ?_; rintro e w' ⟨rfl, rfl⟩)
    | (go_at_call 43; refine (ochk_ok _ _ _ HH.out _).mono ?_; rintro e w2 ⟨rfl, hb2⟩; have HB := Lib.hid (bel2 ((Below.refl _ _).alloc (Nat.le_refl _) _) hb2); obtain ⟨q0, q1, q2, hl2⟩ := box_o hb2; have hc3 := HC.out w2 HB.out; clear hb2))
  have hbl : b < w2.heap.size := World.block_lt_of_cell? _ _ hc3
  have S0 : (w2.alloc (.cells #[.int .i64 i', .int .u32 g'] 193)).cell? ⟨b, 0, none⟩ = some (.pointer (some ⟨k, 0, none⟩)) ∧ (w2.alloc (.cells #[.int .i64 i', .int .u32 g'] 193)).cell? ⟨w2.heap.size, 0, none⟩ = some (.int .i64 i') ∧ (w2.alloc (.cells #[.int .i64 i', .int .u32 g'] 193)).cell? ⟨w2.heap.size, 1, none⟩ = some (.int .u32 g') := by
    have hn := Bk.new w2 193 #[.int .i64 i', .int .u32 g']
    exact ⟨cell_keeps ((Below.refl _ w2).alloc (Nat.le_refl _) _) hc3, hn.cell 0, hn.cell 1⟩
  have B0 := Lib.hid (bel_drew (bel_alloc HB.out (.cells #[.int .i64 i', .int .u32 g'] 193)))
  generalize (w2.alloc (.cells #[.int .i64 i', .int .u32 g'] 193)) = w4 at *
  obtain ⟨s0, s1, s2⟩ := S0
  go_region_held3 (fun W => W.cell? ⟨b, 0, none⟩ = some (.pointer (some ⟨k, 0, none⟩)) ∧ W.cell? ⟨w2.heap.size, 0, none⟩ = some (.int .i64 i') ∧ W.cell? ⟨w2.heap.size, 1, none⟩ = some (.int .u32 g')) (first | (exact ⟨s0, s1, s2⟩) | (with_reducible exact hz1)) (first
    | (go_at_call 141; (with_reducible refine (CK.out _ B0.out).mono ?_); rintro e w5 ⟨rfl, hb5⟩; have HB5 := Lib.hid (bel2 B0.out hb5); have hz1 := And.intro (cell_keeps hb5 s0) (And.intro (cell_keeps hb5 s1) (cell_keeps hb5 s2)); clear hb5))
  all_goals
    obtain ⟨t0, t1, t2⟩ := hz1
    go_wp2_with (go_at_call 122; refine (HCL.out _ HB5.out).mono ?_; rintro e w6 ⟨rfl, HF⟩)
    go_ret
    exact ⟨rfl, HF⟩
set_option maxHeartbeats 1000000 in
set_option maxRecDepth 100000 in
theorem found_return (A1 : Addr) (b k a i : Nat) (D : Dk) (E : Int) (Q : World → Prop) (w : World) (h : DkW w b k a D) (hi : i < D.t.n) (hs : D.t.s i = 1)
    (CL : ∀ W, Below w.heap.size w W → Calls Tryz.prog 214 #[.agg #[.int .i64 i, .int .u32 (D.t.g i)], .pointer (some A1)] W fun e w' => e = .returned (.int .i64 E) ∧ Hid (Q w')) :
    Calls Tryz.prog 119 #[.pointer (some ⟨b, 0, none⟩), .agg #[.int .i64 3, .int .i64 i, .int .u32 (D.t.g i)], .bool true, .func (.func 214) #[] #[.pointer (some A1)]] w fun e w' => e = .returned (.int .i64 E) ∧ Hid (Q w') := by
  obtain ⟨g', hg⟩ : ∃ z, D.t.g i = z := ⟨_, rfl⟩
  obtain ⟨i', hi'⟩ : ∃ j, i = j := ⟨_, rfl⟩
  have ho : Okn 64 3 i' g' := by
    have a1 := h.ok.hi
    have a2 := h.ok.t.g1 i hi
    have a3 := h.ok.t.gm i
    exact ⟨by omega, by omega, by omega, by omega, by omega⟩
  have hE : D.t.chk i' g' = 0 := by rw [← hi', ← hg]; exact Tb.chk_held hi hs
  have HCL := Lib.hid CL
  rw [hg] at HCL ⊢
  rw [hi'] at HCL ⊢
  have hc := h.c0
  have CK : Hid (∀ W, Below w.heap.size w W → Calls Tryz.prog 141 #[.pointer (some ⟨k, 0, none⟩), .agg #[.int .i64 i', .int .u32 g']] W fun e w' => e = .returned (.int .i64 0) ∧ Below W.heap.size W w') := fun W hW => by
    have := check_any k D.t i' g' W (h.below hW).tab
    rw [hE] at this; exact this
  have HC : Hid (∀ W, Below w.heap.size w W → W.cell? ⟨b, 0, none⟩ = some (.pointer (some ⟨k, 0, none⟩))) := fun W hW => (h.below hW).c0
  have HH := Lib.hid ho
  clear ho h hE hi hs CL hi' hg
  go_enter Tryz.func119, Tryz.ntmps119
  go_wp2_with (first
    | (go_at_call 140; refine (dvalid_yes _ k _ (cell_keeps ((Below.refl _ w).alloc (Nat.le_refl _) _) hc)).mono ?_; rintro e w' ⟨rfl, rfl⟩)
    | (go_at_call 43; refine (ochk_ok _ _ _ HH.out _).mono ?_; rintro e w2 ⟨rfl, hb2⟩; have HB := Lib.hid (bel2 ((Below.refl _ _).alloc (Nat.le_refl _) _) hb2); obtain ⟨q0, q1, q2, hl2⟩ := box_o hb2; have hc3 := HC.out w2 HB.out; clear hb2))
  have hbl : b < w2.heap.size := World.block_lt_of_cell? _ _ hc3
  have S0 : (w2.alloc (.cells #[.int .i64 i', .int .u32 g'] 193)).cell? ⟨b, 0, none⟩ = some (.pointer (some ⟨k, 0, none⟩)) ∧ (w2.alloc (.cells #[.int .i64 i', .int .u32 g'] 193)).cell? ⟨w2.heap.size, 0, none⟩ = some (.int .i64 i') ∧ (w2.alloc (.cells #[.int .i64 i', .int .u32 g'] 193)).cell? ⟨w2.heap.size, 1, none⟩ = some (.int .u32 g') := by
    have hn := Bk.new w2 193 #[.int .i64 i', .int .u32 g']
    exact ⟨cell_keeps ((Below.refl _ w2).alloc (Nat.le_refl _) _) hc3, hn.cell 0, hn.cell 1⟩
  have B0 := Lib.hid (bel_drew (bel_alloc HB.out (.cells #[.int .i64 i', .int .u32 g'] 193)))
  generalize (w2.alloc (.cells #[.int .i64 i', .int .u32 g'] 193)) = w4 at *
  obtain ⟨s0, s1, s2⟩ := S0
  go_region_held3 (fun W => W.cell? ⟨b, 0, none⟩ = some (.pointer (some ⟨k, 0, none⟩)) ∧ W.cell? ⟨w2.heap.size, 0, none⟩ = some (.int .i64 i') ∧ W.cell? ⟨w2.heap.size, 1, none⟩ = some (.int .u32 g')) (first | (exact ⟨s0, s1, s2⟩) | (with_reducible exact hz1)) (first
    | (go_at_call 141; (with_reducible refine (CK.out _ B0.out).mono ?_); rintro e w5 ⟨rfl, hb5⟩; have HB5 := Lib.hid (bel2 B0.out hb5); have hz1 := And.intro (cell_keeps hb5 s0) (And.intro (cell_keeps hb5 s1) (cell_keeps hb5 s2)); clear hb5))
  all_goals
    obtain ⟨t0, t1, t2⟩ := hz1
    go_wp2_with (go_at_call 214; refine (HCL.out _ HB5.out).mono ?_; rintro e w6 ⟨rfl, HF⟩)
    go_ret
    exact ⟨rfl, HF⟩
set_option maxHeartbeats 1000000 in
set_option maxRecDepth 100000 in
theorem found_until (A1 A2 : Addr) (b k a i : Nat) (D : Dk) (E : Int) (Q : World → Prop) (w : World) (h : DkW w b k a D) (hi : i < D.t.n) (hs : D.t.s i = 1)
    (CL : ∀ W, Below w.heap.size w W → Calls Tryz.prog 133 #[.agg #[.int .i64 i, .int .u32 (D.t.g i)], .pointer (some A1), .pointer (some A2)] W fun e w' => e = .returned (.int .i64 E) ∧ Hid (Q w')) :
    Calls Tryz.prog 119 #[.pointer (some ⟨b, 0, none⟩), .agg #[.int .i64 3, .int .i64 i, .int .u32 (D.t.g i)], .bool true, .func (.func 133) #[] #[.pointer (some A1), .pointer (some A2)]] w fun e w' => e = .returned (.int .i64 E) ∧ Hid (Q w') := by
  obtain ⟨g', hg⟩ : ∃ z, D.t.g i = z := ⟨_, rfl⟩
  obtain ⟨i', hi'⟩ : ∃ j, i = j := ⟨_, rfl⟩
  have ho : Okn 64 3 i' g' := by
    have a1 := h.ok.hi
    have a2 := h.ok.t.g1 i hi
    have a3 := h.ok.t.gm i
    exact ⟨by omega, by omega, by omega, by omega, by omega⟩
  have hE : D.t.chk i' g' = 0 := by rw [← hi', ← hg]; exact Tb.chk_held hi hs
  have HCL := Lib.hid CL
  rw [hg] at HCL ⊢
  rw [hi'] at HCL ⊢
  have hc := h.c0
  have CK : Hid (∀ W, Below w.heap.size w W → Calls Tryz.prog 141 #[.pointer (some ⟨k, 0, none⟩), .agg #[.int .i64 i', .int .u32 g']] W fun e w' => e = .returned (.int .i64 0) ∧ Below W.heap.size W w') := fun W hW => by
    have := check_any k D.t i' g' W (h.below hW).tab
    rw [hE] at this; exact this
  have HC : Hid (∀ W, Below w.heap.size w W → W.cell? ⟨b, 0, none⟩ = some (.pointer (some ⟨k, 0, none⟩))) := fun W hW => (h.below hW).c0
  have HH := Lib.hid ho
  clear ho h hE hi hs CL hi' hg
  go_enter Tryz.func119, Tryz.ntmps119
  go_wp2_with (first
    | (go_at_call 140; refine (dvalid_yes _ k _ (cell_keeps ((Below.refl _ w).alloc (Nat.le_refl _) _) hc)).mono ?_; rintro e w' ⟨rfl, rfl⟩)
    | (go_at_call 43; refine (ochk_ok _ _ _ HH.out _).mono ?_; rintro e w2 ⟨rfl, hb2⟩; have HB := Lib.hid (bel2 ((Below.refl _ _).alloc (Nat.le_refl _) _) hb2); obtain ⟨q0, q1, q2, hl2⟩ := box_o hb2; have hc3 := HC.out w2 HB.out; clear hb2))
  have hbl : b < w2.heap.size := World.block_lt_of_cell? _ _ hc3
  have S0 : (w2.alloc (.cells #[.int .i64 i', .int .u32 g'] 193)).cell? ⟨b, 0, none⟩ = some (.pointer (some ⟨k, 0, none⟩)) ∧ (w2.alloc (.cells #[.int .i64 i', .int .u32 g'] 193)).cell? ⟨w2.heap.size, 0, none⟩ = some (.int .i64 i') ∧ (w2.alloc (.cells #[.int .i64 i', .int .u32 g'] 193)).cell? ⟨w2.heap.size, 1, none⟩ = some (.int .u32 g') := by
    have hn := Bk.new w2 193 #[.int .i64 i', .int .u32 g']
    exact ⟨cell_keeps ((Below.refl _ w2).alloc (Nat.le_refl _) _) hc3, hn.cell 0, hn.cell 1⟩
  have B0 := Lib.hid (bel_drew (bel_alloc HB.out (.cells #[.int .i64 i', .int .u32 g'] 193)))
  generalize (w2.alloc (.cells #[.int .i64 i', .int .u32 g'] 193)) = w4 at *
  obtain ⟨s0, s1, s2⟩ := S0
  go_region_held3 (fun W => W.cell? ⟨b, 0, none⟩ = some (.pointer (some ⟨k, 0, none⟩)) ∧ W.cell? ⟨w2.heap.size, 0, none⟩ = some (.int .i64 i') ∧ W.cell? ⟨w2.heap.size, 1, none⟩ = some (.int .u32 g')) (first | (exact ⟨s0, s1, s2⟩) | (with_reducible exact hz1)) (first
    | (go_at_call 141; (with_reducible refine (CK.out _ B0.out).mono ?_); rintro e w5 ⟨rfl, hb5⟩; have HB5 := Lib.hid (bel2 B0.out hb5); have hz1 := And.intro (cell_keeps hb5 s0) (And.intro (cell_keeps hb5 s1) (cell_keeps hb5 s2)); clear hb5))
  all_goals
    obtain ⟨t0, t1, t2⟩ := hz1
    go_wp2_with (go_at_call 133; refine (HCL.out _ HB5.out).mono ?_; rintro e w6 ⟨rfl, HF⟩)
    go_ret
    exact ⟨rfl, HF⟩
end Go.Proofs.YtpinmiplefidpaaGreatDoor.LS

namespace Go.Proofs.YtpinmiplefidpaaGreatDoor.LS
open Go.RowKit

theorem one_cell {w : World} {B : Nat} {t : TypeId} {v : Value} (h : Bk w B t #[v]) : w.cell? ⟨B, 0, none⟩ = some v := h.cell 0
/-- A block of a type that no part of a desk has. -/
theorem DkW.off {w : World} {b k a A : Nat} {D : Dk} {t : TypeId} {cs : Array Value} (h : DkW w b k a D) (hA : Bk w A t cs) (h1 : t ≠ 163) (h2 : t ≠ 210) (h3 : t ≠ 161) : ¬ DFoot b k a A := by
  rintro (rfl | rfl | rfl)
  · exact h1 (hA.uniq h.hb).1
  · exact h2 (hA.uniq h.tab.bk).1
  · exact h3 (hA.uniq h.ha).1

/-! ### Return -/
theorem dgive {w w' : World} {b k a i : Nat} {D : Dk} (h : DkW w b k a D) (hT : TabW w' k (D.t.gave i)) (q : Kept (· = k) w w') : DkW w' b k a (D.give i) ∧ Kept (DFoot b k a) w w' :=
  ⟨⟨h.ok.give i, h.hb.kept q h.bk, h.ha.kept q (fun e => h.ka e.symm), hT⟩, q.mono fun _ _ e => .inr (.inl e)⟩
set_option maxHeartbeats 1000000 in
set_option maxRecDepth 100000 in
theorem return1_ok (B b k a i : Nat) (D : Dk) (w : World) (h : DkW w b k a D) (hi : i < D.t.n) (hs : D.t.s i = 1) (hB : Bk w B 90 #[.pointer (some ⟨b, 0, none⟩)]) :
    Calls Tryz.prog 214 #[.agg #[.int .i64 i, .int .u32 (D.t.g i)], .pointer (some ⟨B, 0, none⟩)] w fun e w' => e = .returned (.int .i64 0) ∧ Hid (DkW w' b k a (D.give i) ∧ Kept (DFoot b k a) w w') := by
  have hBk : B ≠ k := by rintro rfl; exact absurd (hB.uniq h.tab.bk).1 (by decide)
  have hbk := h.bk
  have hkl := h.tab.bt
  obtain ⟨z, hz⟩ : ∃ z, D.t.g i = z := ⟨_, rfl⟩
  have GV : Hid (∀ W, Below w.heap.size w W → Calls Tryz.prog 191 #[.pointer (some ⟨k, 0, none⟩), .agg #[.int .i64 i, .int .u32 z]] W fun e w' => e = .returned (.int .i64 0) ∧ (DkW w' b k a (D.give i) ∧ Kept (DFoot b k a) w w') ∧ Kept (· = k) W w') := fun W hW => by
    refine (give_ok k D.t i z W (h.below hW).tab hi hs (by rw [hz])).mono ?_
    rintro e w' ⟨rfl, hT, hk⟩
    have := dgive (h.below hW) hT hk
    exact ⟨rfl, ⟨this.1, (Kept.of_below hW).trans this.2⟩, hk⟩
  have R0 := one_cell hB
  have R1 := h.c0
  rw [hz]
  clear h hi hs hB hz
  go_enter Tryz.func214, Tryz.ntmps214
  go_wp2
  have S0 : (w.alloc (.cells #[.int .i64 i, .int .u32 z] 193)).cell? ⟨w.heap.size, 0, none⟩ = some (.int .i64 i) ∧ (w.alloc (.cells #[.int .i64 i, .int .u32 z] 193)).cell? ⟨w.heap.size, 1, none⟩ = some (.int .u32 z) := by
    have hn := Bk.new w 193 #[.int .i64 i, .int .u32 z]
    exact ⟨hn.cell 0, hn.cell 1⟩
  have hb0 : Below w.heap.size w (w.alloc (.cells #[.int .i64 i, .int .u32 z] 193)) := (Below.refl _ w).alloc (Nat.le_refl _) _
  have B0 := Lib.hid (bel_drew hb0)
  have hne : w.heap.size ≠ k := by omega
  generalize (w.alloc (.cells #[.int .i64 i, .int .u32 z] 193)) = w4 at *
  obtain ⟨s0, s1⟩ := S0
  have r0 := cell_keeps hb0 R0
  have r1 := cell_keeps hb0 R1
  clear R0 R1 hb0
  go_region_held3 (fun W => W.cell? ⟨B, 0, none⟩ = some (.pointer (some ⟨b, 0, none⟩)) ∧ W.cell? ⟨b, 0, none⟩ = some (.pointer (some ⟨k, 0, none⟩)) ∧ W.cell? ⟨w.heap.size, 0, none⟩ = some (.int .i64 i) ∧ W.cell? ⟨w.heap.size, 1, none⟩ = some (.int .u32 z)) (first | (exact ⟨r0, r1, s0, s1⟩) | (with_reducible exact hz1)) (first
    | (go_at_call 191; (with_reducible refine (GV.out _ B0.out).mono ?_); rintro e w5 ⟨rfl, hp5, hk5⟩; have hz1 := And.intro (kept_cell hk5 r0 hBk) (And.intro (kept_cell hk5 r1 hbk) (And.intro (kept_cell hk5 s0 hne) (kept_cell hk5 s1 hne))); have HF := Lib.hid hp5; clear hp5 hk5))
  all_goals
    go_wp2
    go_ret
    exact ⟨rfl, HF⟩

/-! ### Until -/
set_option maxHeartbeats 1000000 in
set_option maxRecDepth 100000 in
theorem until1_ok (B U b k a i : Nat) (g : Int) (D : Dk) (w : World) (h : DkW w b k a D) (hi : i < 64) (hB : Bk w B 90 #[.pointer (some ⟨b, 0, none⟩)]) (hU : Bk w U 2 #[.int .i64 0]) :
    Calls Tryz.prog 133 #[.agg #[.int .i64 i, .int .u32 g], .pointer (some ⟨B, 0, none⟩), .pointer (some ⟨U, 0, none⟩)] w fun e w' => e = .returned (.int .i64 0) ∧ Hid (Bk w' U 2 #[.int .i64 (D.u i)] ∧ Kept (· = U) w w') := by
  have R0 := one_cell hB
  have R1 := h.c1
  have R2 := h.ca hi
  have U0 := one_cell hU
  have hiz : (i : Int) < 64 := by omega
  generalize D.u i = y at *
  have FIN : Hid (∀ o : Obj, Bk ((w.alloc o).drew.setCell ⟨U, 0, none⟩ (.int .i64 y)) U 2 #[.int .i64 y] ∧ Kept (· = U) w ((w.alloc o).drew.setCell ⟨U, 0, none⟩ (.int .i64 y))) := fun o => by
    have h1 : Bk (w.alloc o).drew U 2 #[.int .i64 0] := hU.up o
    exact ⟨h1.put 0 _, (((Kept.refl _ w).alloc o).drew).put1 _ _⟩
  have F0 : ∀ o : Obj, (w.alloc o).frozen? ⟨U, 0, none⟩ = false := fun o => (hU.up o).frozen 0
  clear h hB hU
  go_enter Tryz.func133, Tryz.ntmps133
  go_wp2
  have hb0 : Below w.heap.size w (w.alloc (.cells #[.int .i64 i, .int .u32 g] 193)) := (Below.refl _ w).alloc (Nat.le_refl _) _
  have FI := Lib.hid (FIN.out (.cells #[.int .i64 i, .int .u32 g] 193))
  have s0 : (w.alloc (.cells #[.int .i64 i, .int .u32 g] 193)).cell? ⟨w.heap.size, 0, none⟩ = some (.int .i64 i) := (Bk.new w 193 #[.int .i64 i, .int .u32 g]).cell 0
  have f1 := F0 (.cells #[.int .i64 i, .int .u32 g] 193)
  have r0 := cell_keeps hb0 R0
  have r1 := cell_keeps hb0 R1
  have r2 := cell_keeps hb0 R2
  have u0 := cell_keeps hb0 U0
  generalize (w.alloc (.cells #[.int .i64 i, .int .u32 g] 193)) = w4 at *
  clear R0 R1 R2 U0 hb0 FIN F0
  go_region
  go_wp2
  go_ret
  exact ⟨rfl, FI.out⟩

/-! ### Over -/

/-! ### Renew -/
theorem duntil {w : World} {b k a i y : Nat} {D : Dk} (h : DkW w b k a D) (hy : y ≤ 1099511627776) : DkW (w.setCell ⟨a, i, none⟩ (.int .i64 y)) b k a (D.until i y) := by
  have e1 : ∀ g, g ≠ a → (w.setCell ⟨a, i, none⟩ (.int .i64 y)).heap[g]? = w.heap[g]? := fun g hg => Below.heap_setCell _ _ _ _ hg
  have h2 := h.ha.put i (.int .i64 y)
  rw [ucells_put] at h2
  exact ⟨h.ok.until i hy, h.hb.same (e1 b h.ba), h2, h.tab.same (e1 k h.ka)⟩
def Rn1 (b k a : Nat) (D : Dk) (w w' : World) : Prop := DkW w' b k a D ∧ Kept (DFoot b k a) w w'
set_option maxHeartbeats 1000000 in
set_option maxRecDepth 100000 in
theorem renew1_over (B N T b k a i : Nat) (g now x : Int) (D : Dk) (w : World) (h : DkW w b k a D) (hi : i < 64) (hB : Bk w B 90 #[.pointer (some ⟨b, 0, none⟩)]) (hN : Bk w N 2 #[.int .i64 now]) (_hT : Bk w T 2 #[.int .i64 x]) (hr : (D.u i : Int) ≤ now) :
    Calls Tryz.prog 122 #[.agg #[.int .i64 i, .int .u32 g], .pointer (some ⟨B, 0, none⟩), .pointer (some ⟨N, 0, none⟩), .pointer (some ⟨T, 0, none⟩)] w fun e w' => e = .returned (.int .i64 8) ∧ Hid (Rn1 b k a D w w') := by
  have OV : Hid (∀ W, Below w.heap.size w W → Calls Tryz.prog 123 #[.pointer (some ⟨b, 0, none⟩), .agg #[.int .i64 i, .int .u32 g], .int .i64 now] W fun e w' => e = .returned (.bool true) ∧ Hid (Rn1 b k a D w w')) := fun W hW => by
    refine (over_core b a i g now _ true W hi (h.below hW).c1 ((h.below hW).ca hi) (by simpa using hr)).mono ?_
    rintro e w' ⟨rfl, hb⟩
    exact ⟨rfl, h.below (bel2 hW hb), Kept.of_below (bel2 hW hb)⟩
  have HB := Lib.hid ((Below.refl _ w).alloc (Nat.le_refl _) (.cells #[.int .i64 i, .int .u32 g] 193))
  have r0 := cell_keeps HB.out (one_cell hB)
  have r1 := cell_keeps HB.out (one_cell hN)
  clear h hi hB hN hr
  go_enter Tryz.func122, Tryz.ntmps122
  go_wp2_with (go_at_call 123; refine (OV.out _ HB.out).mono ?_; rintro e w2 ⟨rfl, HF⟩)
  go_ret
  exact ⟨rfl, HF⟩
set_option maxHeartbeats 1000000 in
set_option maxRecDepth 100000 in
theorem renew1_late (B N T b k a i : Nat) (g now x : Int) (D : Dk) (w : World) (h : DkW w b k a D) (hi : i < 64) (hB : Bk w B 90 #[.pointer (some ⟨b, 0, none⟩)]) (hN : Bk w N 2 #[.int .i64 now]) (hT : Bk w T 2 #[.int .i64 x]) (hr : now < (D.u i : Int)) (hx : IsSpan x) (hn : IsTime now) (hl : 1099511627776 < now + x) :
    Calls Tryz.prog 122 #[.agg #[.int .i64 i, .int .u32 g], .pointer (some ⟨B, 0, none⟩), .pointer (some ⟨N, 0, none⟩), .pointer (some ⟨T, 0, none⟩)] w fun e w' => e = .returned (.int .i64 17) ∧ Hid (Rn1 b k a D w w') := by
  obtain ⟨x1, x2⟩ := hx
  obtain ⟨n1, n2⟩ := hn
  have hwr : IntKind.i64.wrap (now + x) = now + x := by rw [IntKind.wrap_i64]; omega
  have TM : Hid (∀ W, Calls Tryz.prog 121 #[.int .i64 (now + x)] W fun e w' => e = .returned (.bool false) ∧ W = w') := fun W => time_no _ W (by unfold IsTime; omega)
  have OV : Hid (∀ W, Below w.heap.size w W → Calls Tryz.prog 123 #[.pointer (some ⟨b, 0, none⟩), .agg #[.int .i64 i, .int .u32 g], .int .i64 now] W fun e w' => e = .returned (.bool false) ∧ (w'.cell? ⟨N, 0, none⟩ = some (.int .i64 now) ∧ w'.cell? ⟨T, 0, none⟩ = some (.int .i64 x)) ∧ Hid (Rn1 b k a D w w')) := fun W hW => by
    refine (over_core b a i g now _ false W hi (h.below hW).c1 ((h.below hW).ca hi) (by simpa using hr)).mono ?_
    rintro e w' ⟨rfl, hb⟩
    exact ⟨rfl, ⟨one_cell (hN.below (bel2 hW hb)), one_cell (hT.below (bel2 hW hb))⟩, h.below (bel2 hW hb), Kept.of_below (bel2 hW hb)⟩
  have HB := Lib.hid ((Below.refl _ w).alloc (Nat.le_refl _) (.cells #[.int .i64 i, .int .u32 g] 193))
  have r0 := cell_keeps HB.out (one_cell hB)
  have r1 := cell_keeps HB.out (one_cell hN)
  clear h hi hB hN hT hr
  go_enter Tryz.func122, Tryz.ntmps122
  go_wp2_with (first
    | (go_at_call 123; refine (OV.out _ HB.out).mono ?_; rintro e w2 ⟨rfl, ⟨o0, o1⟩, HF⟩)
    | (go_at_call 121; refine (TM.out _).mono ?_; rintro e w3 ⟨rfl, rfl⟩))
  go_ret
  exact ⟨rfl, HF⟩
set_option maxHeartbeats 2000000 in
set_option maxRecDepth 100000 in
theorem renew1_ok (B N T b k a i : Nat) (g now x : Int) (D : Dk) (w : World) (h : DkW w b k a D) (hi : i < 64) (hB : Bk w B 90 #[.pointer (some ⟨b, 0, none⟩)]) (hN : Bk w N 2 #[.int .i64 now]) (hT : Bk w T 2 #[.int .i64 x]) (hr : now < (D.u i : Int)) (hx : IsSpan x) (hn : IsTime now) (hl : now + x ≤ 1099511627776) :
    Calls Tryz.prog 122 #[.agg #[.int .i64 i, .int .u32 g], .pointer (some ⟨B, 0, none⟩), .pointer (some ⟨N, 0, none⟩), .pointer (some ⟨T, 0, none⟩)] w fun e w' => e = .returned (.int .i64 0) ∧ Hid (Rn1 b k a (D.until i (now + x).toNat) w w') := by
  obtain ⟨x1, x2⟩ := hx
  obtain ⟨n1, n2⟩ := hn
  have hwr : IntKind.i64.wrap (now + x) = now + x := by rw [IntKind.wrap_i64]; omega
  obtain ⟨y, hy⟩ : ∃ y : Nat, (now + x).toNat = y := ⟨_, rfl⟩
  have hyz : now + x = (y : Int) := by omega
  rw [hy]
  have hiz : (i : Int) < 64 := by omega
  have TM : Hid (∀ W, Calls Tryz.prog 121 #[.int .i64 (now + x)] W fun e w' => e = .returned (.bool true) ∧ W = w') := fun W => time_yes _ W (by unfold IsTime; omega)
  obtain ⟨rs, hrs⟩ : ∃ o : Obj, .cells #[.int .i64 i, .int .u32 g] 193 = o := ⟨_, rfl⟩
  have OV : Hid (∀ W, Below w.heap.size w W → Bk W w.heap.size 193 #[.int .i64 i, .int .u32 g] → Calls Tryz.prog 123 #[.pointer (some ⟨b, 0, none⟩), .agg #[.int .i64 i, .int .u32 g], .int .i64 now] W fun e w' => e = .returned (.bool false) ∧ (w'.cell? ⟨N, 0, none⟩ = some (.int .i64 now) ∧ w'.cell? ⟨T, 0, none⟩ = some (.int .i64 x) ∧ w'.cell? ⟨B, 0, none⟩ = some (.pointer (some ⟨b, 0, none⟩)) ∧ w'.cell? ⟨b, 1, none⟩ = some (.pointer (some ⟨a, 0, none⟩)) ∧ w'.cell? ⟨a, i, none⟩ = some (.int .i64 (D.u i)) ∧ w'.frozen? ⟨a, i, none⟩ = false ∧ w'.cell? ⟨w.heap.size, 0, none⟩ = some (.int .i64 i) ∧ w.heap.size < w'.heap.size) ∧ Hid (Rn1 b k a (D.until i y) w (w'.drew.setCell ⟨a, i, none⟩ (.int .i64 y)))) := fun W hW hR => by
    refine (over_core b a i g now _ false W hi (h.below hW).c1 ((h.below hW).ca hi) (by simpa using hr)).mono ?_
    rintro e w' ⟨rfl, hb⟩
    have hb' := bel2 hW hb
    have h' := h.below hb'
    have hd : DkW w'.drew b k a D := h'.drewN 1
    exact ⟨rfl, ⟨one_cell (hN.below hb'), one_cell (hT.below hb'), one_cell (hB.below hb'), h'.c1, h'.ca hi, h'.fz i, (hR.below hb).cell 0, (hR.below hb).lt⟩, duntil hd (by omega), (Kept.of_below hb').drew.put (p := ⟨a, i, none⟩) (.inr (.inr (.inr rfl))) _⟩
  have HB := Lib.hid ((Below.refl _ w).alloc (Nat.le_refl _) (.cells #[.int .i64 i, .int .u32 g] 193))
  have HR := Lib.hid (Bk.new w 193 #[.int .i64 i, .int .u32 g])
  have r0 := cell_keeps HB.out (one_cell hB)
  have r1 := cell_keeps HB.out (one_cell hN)
  clear h hi hB hN hT hr hrs
  generalize D.u i = ui at *
  have HY := Lib.hid hyz
  clear hy hyz
  go_enter Tryz.func122, Tryz.ntmps122
  go_wp2_with (first
    | (go_at_call 123; refine (OV.out _ HB.out HR.out).mono ?_; rintro e w2 ⟨rfl, ⟨o0, o1, o2, o3, o4, o5, o6, o7⟩, HF⟩)
    | (go_at_call 121; refine (TM.out _).mono ?_; rintro e w3 ⟨rfl, rfl⟩))
  go_region
  go_wp2
  go_ret
  rw [HY.out]
  exact ⟨rfl, HF⟩
end Go.Proofs.YtpinmiplefidpaaGreatDoor.LS

namespace Go.Proofs.YtpinmiplefidpaaGreatDoor.LS
open Go.RowKit

theorem bk_two (w : World) (t s : TypeId) (cs ds : Array Value) : Bk ((w.alloc (.cells cs t)).alloc (.cells ds s)) w.heap.size t cs ∧ Bk ((w.alloc (.cells cs t)).alloc (.cells ds s)) (w.heap.size + 1) s ds := by
  have h2 := Bk.new (w.alloc (.cells cs t)) s ds
  rw [World.size_alloc] at h2
  exact ⟨(Bk.new w t cs).up _, h2⟩
theorem bk_three (w : World) (t s r : TypeId) (cs ds es : Array Value) {w3 : World} (h : ((w.alloc (.cells cs t)).alloc (.cells ds s)).alloc (.cells es r) = w3) : Bk w3 w.heap.size t cs ∧ Bk w3 (w.heap.size + 1) s ds ∧ Bk w3 (w.heap.size + 1 + 1) r es ∧ w3.heap.size = w.heap.size + 1 + 1 + 1 ∧ Below w.heap.size w w3 := by
  subst h
  have h2 := bk_two w t s cs ds
  have h3 := Bk.new ((w.alloc (.cells cs t)).alloc (.cells ds s)) r es
  rw [World.size_alloc, World.size_alloc] at h3
  exact ⟨h2.1.up _, h2.2.up _, h3, by simp, bel_alloc (bel_two w _ _) _⟩
theorem bk_four (w : World) (t s r q : TypeId) (cs ds es fs : Array Value) {w4 : World} (h : (((w.alloc (.cells cs t)).alloc (.cells ds s)).alloc (.cells es r)).alloc (.cells fs q) = w4) : Bk w4 w.heap.size t cs ∧ Bk w4 (w.heap.size + 1) s ds ∧ Bk w4 (w.heap.size + 1 + 1) r es ∧ Bk w4 (w.heap.size + 1 + 1 + 1) q fs ∧ w4.heap.size = w.heap.size + 1 + 1 + 1 + 1 ∧ Below w.heap.size w w4 := by
  subst h
  obtain ⟨h1, h2, h3, h4, h5⟩ := bk_three w t s r cs ds es rfl
  have h6 := Bk.new (((w.alloc (.cells cs t)).alloc (.cells ds s)).alloc (.cells es r)) q fs
  rw [h4] at h6
  exact ⟨h1.up _, h2.up _, h3.up _, h6, by rw [World.size_alloc, h4], bel_alloc h5 _⟩

/-! ### Return -/
set_option maxHeartbeats 1000000 in
set_option maxRecDepth 100000 in
theorem return_of (p : Option Addr) (x y z E : Int) (Q : World → Prop) (w : World)
    (FD : ∀ W, Below w.heap.size w W → Bk W w.heap.size 90 #[.pointer p] → Calls Tryz.prog 119 #[.pointer p, .agg #[.int .i64 x, .int .i64 y, .int .u32 z], .bool true, .func (.func 214) #[] #[.pointer (some ⟨w.heap.size, 0, none⟩)]] W fun e w' => e = .returned (.int .i64 E) ∧ Hid (Q w')) :
    Calls Tryz.prog 212 #[.pointer p, .agg #[.int .i64 x, .int .i64 y, .int .u32 z]] w fun e w' => e = .returned (.int .i64 E) ∧ Hid (Q w') := by
  have h2 := bk_two w 90 25 #[.pointer p] #[.int .i64 x, .int .i64 y, .int .u32 z]
  have F := Lib.hid (FD _ (bel_two w (.cells #[.pointer p] 90) (.cells #[.int .i64 x, .int .i64 y, .int .u32 z] 25)) h2.1)
  clear FD h2
  go_enter Tryz.func212, Tryz.ntmps212
  go_wp2_with (go_at_call 119; refine F.out.mono ?_; rintro e w2 ⟨rfl, HF⟩)
  go_ret
  exact ⟨rfl, HF⟩
/-- What Return says of a desk, and what it leaves. -/
def RetV (b k a : Nat) (_D U : Dk) (E : Int) (w : World) (e : Ending) (w' : World) : Prop := e = .returned (.int .i64 E) ∧ DkW w' b k a U ∧ Kept (DFoot b k a) w w'
theorem dret_inv (p : Option Addr) (x y z : Int) (w : World) (h : DInv w p) : Calls Tryz.prog 212 #[.pointer p, .agg #[.int .i64 x, .int .i64 y, .int .u32 z]] w fun e w' => e = .returned (.int .i64 1) ∧ Below w.heap.size w w' :=
  (return_of p x y z 1 (fun w' => Below w.heap.size w w') w fun W hW _ => (found_inv p x y z true _ W (h.below hW)).mono fun _ _ ⟨h1, h2⟩ => ⟨h1, bel2 hW h2⟩).mono fun _ _ ⟨h1, h2⟩ => ⟨h1, h2.out⟩
theorem dret_ok (b k a : Nat) (D : Dk) (x y z : Int) (hr : RgO x y z) (w : World) (h : DkW w b k a D) : Calls Tryz.prog 212 #[.pointer (some ⟨b, 0, none⟩), .agg #[.int .i64 x, .int .i64 y, .int .u32 z]] w (RetV b k a D (D.ret x y z) (D.chk x y z) w) := by
  by_cases h0 : D.chk x y z = 0
  · obtain ⟨rfl, i, rfl, hi, hs, rfl⟩ := Dk.chk_is h0
    have e1 : D.ret 3 i (D.t.g i) = D.give i := by unfold Dk.ret; rw [if_pos h0, Int.toNat_natCast]
    rw [h0, e1]
    refine (return_of (some ⟨b, 0, none⟩) 3 i (D.t.g i) 0 (fun w' => DkW w' b k a (D.give i) ∧ Kept (DFoot b k a) w w') w fun W hW hB => ?_).mono fun _ _ ⟨h1, h2⟩ => ⟨h1, h2.out.1, h2.out.2⟩
    refine found_return _ b k a i D 0 _ W (h.below hW) hi hs fun W' hW' => ?_
    refine (return1_ok _ b k a i D W' ((h.below hW).below hW') hi hs (hB.below hW')).mono fun _ _ ⟨h1, h2⟩ => ⟨h1, h2.out.1, (Kept.of_below (bel2 hW hW')).trans h2.out.2⟩
  · have e1 : D.ret x y z = D := by unfold Dk.ret; rw [if_neg h0]
    rw [e1]
    refine (return_of (some ⟨b, 0, none⟩) x y z (D.chk x y z) (fun w' => Below w.heap.size w w') w fun W hW _ => ?_).mono fun _ _ ⟨h1, h2⟩ => ⟨h1, h.below h2.out, Kept.of_below h2.out⟩
    exact (found_no b k a D x y z hr h0 _ W (h.below hW)).mono fun _ _ ⟨h1, h2⟩ => ⟨h1, bel2 hW h2⟩

/-! ### Until -/
set_option maxHeartbeats 1000000 in
set_option maxRecDepth 100000 in
theorem until_of (p : Option Addr) (x y z E n : Int) (w : World)
    (FD : ∀ W, Below w.heap.size w W → Bk W w.heap.size 90 #[.pointer p] → Bk W (w.heap.size + 1 + 1) 2 #[.int .i64 0] → Calls Tryz.prog 119 #[.pointer p, .agg #[.int .i64 x, .int .i64 y, .int .u32 z], .bool true, .func (.func 133) #[] #[.pointer (some ⟨w.heap.size, 0, none⟩), .pointer (some ⟨w.heap.size + 1 + 1, 0, none⟩)]] W fun e w' => e = .returned (.int .i64 E) ∧ Hid (Bk w' (w.heap.size + 1 + 1) 2 #[.int .i64 n] ∧ Below w.heap.size w w')) :
    Calls Tryz.prog 92 #[.pointer p, .agg #[.int .i64 x, .int .i64 y, .int .u32 z]] w fun e w' => e = .returned (.tuple #[.int .i64 n, .int .i64 E]) ∧ Below w.heap.size w w' := by
  obtain ⟨h1, h2, h3, h4, h5⟩ := bk_three w 90 25 2 #[.pointer p] #[.int .i64 x, .int .i64 y, .int .u32 z] #[.int .i64 0] rfl
  have F := Lib.hid (FD _ h5 h1 h3)
  clear FD h1 h2 h3 h4 h5
  go_enter Tryz.func92, Tryz.ntmps92
  go_wp2_with (go_at_call 119; refine F.out.mono ?_; rintro e w2 ⟨rfl, HF⟩; have hq := one_cell HF.out.1)
  go_ret2
  exact ⟨rfl, HF.out.2⟩
theorem duntil_inv (p : Option Addr) (x y z : Int) (w : World) (h : DInv w p) : Calls Tryz.prog 92 #[.pointer p, .agg #[.int .i64 x, .int .i64 y, .int .u32 z]] w fun e w' => e = .returned (.tuple #[.int .i64 0, .int .i64 1]) ∧ Below w.heap.size w w' :=
  until_of p x y z 1 0 w fun W hW _ hU => (found_inv p x y z true _ W (h.below hW)).mono fun _ _ ⟨h1, h2⟩ => ⟨h1, hU.below h2, bel2 hW h2⟩
theorem duntil_ok (b k a : Nat) (D : Dk) (x y z : Int) (hr : RgO x y z) (w : World) (h : DkW w b k a D) : Calls Tryz.prog 92 #[.pointer (some ⟨b, 0, none⟩), .agg #[.int .i64 x, .int .i64 y, .int .u32 z]] w fun e w' => e = .returned (.tuple #[.int .i64 (D.til x y z), .int .i64 (D.chk x y z)]) ∧ Below w.heap.size w w' := by
  by_cases h0 : D.chk x y z = 0
  · obtain ⟨rfl, i, rfl, hi, hs, rfl⟩ := Dk.chk_is h0
    have e1 : D.til 3 i (D.t.g i) = D.u i := by unfold Dk.til; rw [if_pos h0, Int.toNat_natCast]
    rw [h0, e1]
    refine until_of (some ⟨b, 0, none⟩) 3 i (D.t.g i) 0 (D.u i) w fun W hW hB hU => ?_
    refine found_until _ _ b k a i D 0 _ W (h.below hW) hi hs fun W' hW' => ?_
    refine (until1_ok _ (w.heap.size + 1 + 1) b k a i _ D W' ((h.below hW).below hW') (by have := h.ok.hi; omega) (hB.below hW') (hU.below hW')).mono fun _ _ ⟨h1, h2⟩ => ⟨h1, h2.out.1, ?_⟩
    exact (bel2 hW hW').trans (h2.out.2.below (bel2 hW hW').size (by rintro g rfl; omega))
  · have e1 : D.til x y z = 0 := if_neg h0
    rw [e1]
    refine until_of (some ⟨b, 0, none⟩) x y z (D.chk x y z) 0 w fun W hW _ hU => ?_
    exact (found_no b k a D x y z hr h0 _ W (h.below hW)).mono fun _ _ ⟨h1, h2⟩ => ⟨h1, hU.below h2, bel2 hW h2⟩

/-! ### Over -/
theorem Dk.ovr_no {D : Dk} {k i g now : Int} (h : D.oE k i g now ≠ 0) : D.ovr k i g now = false := if_neg h

/-! ### Renew -/
set_option maxRecDepth 100000 in
set_option maxHeartbeats 4000000 in
theorem renew_of (p : Option Addr) (x y z t now E : Int) (Q : World → Prop) (b1 b2 r : Bool) (w : World) (hb1 : decide (IsSpan t) = b1) (hb2 : decide (IsTime now) = b2) (hr : (b1 && b2) = r)
    (FD : ∀ W, Below w.heap.size w W → Bk W w.heap.size 90 #[.pointer p] → Bk W (w.heap.size + 1 + 1) 2 #[.int .i64 t] → Bk W (w.heap.size + 1 + 1 + 1) 2 #[.int .i64 now] → Calls Tryz.prog 119 #[.pointer p, .agg #[.int .i64 x, .int .i64 y, .int .u32 z], .bool r, .func (.func 122) #[] #[.pointer (some ⟨w.heap.size, 0, none⟩), .pointer (some ⟨w.heap.size + 1 + 1 + 1, 0, none⟩), .pointer (some ⟨w.heap.size + 1 + 1, 0, none⟩)]] W fun e w' => e = .returned (.int .i64 E) ∧ Hid (Q w')) :
    Calls Tryz.prog 79 #[.pointer p, .agg #[.int .i64 x, .int .i64 y, .int .u32 z], .int .i64 t, .int .i64 now] w fun e w' => e = .returned (.int .i64 E) ∧ Hid (Q w') := by
  obtain ⟨w4, hw4⟩ : ∃ w4, (((w.alloc (.cells #[.pointer p] 90)).alloc (.cells #[.int .i64 x, .int .i64 y, .int .u32 z] 25)).alloc (.cells #[.int .i64 t] 2)).alloc (.cells #[.int .i64 now] 2) = w4 := ⟨_, rfl⟩
  obtain ⟨h1, h2, h3, h4, h5, h6⟩ := bk_four w _ _ _ _ _ _ _ _ hw4
  have F : Hid (∀ W, Below w4.heap.size w4 W → Calls Tryz.prog 119 #[.pointer p, .agg #[.int .i64 x, .int .i64 y, .int .u32 z], .bool r, .func (.func 122) #[] #[.pointer (some ⟨w.heap.size, 0, none⟩), .pointer (some ⟨w.heap.size + 1 + 1 + 1, 0, none⟩), .pointer (some ⟨w.heap.size + 1 + 1, 0, none⟩)]] W fun e w' => e = .returned (.int .i64 E) ∧ Hid (Q w')) := fun W hW => FD W (bel2 h6 hW) (h1.below hW) (h3.below hW) (h4.below hW)
  have c0 := one_cell h1
  have c2 := one_cell h3
  have c3 := one_cell h4
  have o0 := h2.cell 0
  have o1 := h2.cell 1
  have o2 := h2.cell 2
  simp only [List.getElem?_toArray, List.getElem?_cons_zero, List.getElem?_cons_succ] at o0 o1 o2
  have B4 : Hid (Below w4.heap.size w4 w4.drew) := bel_drew (Below.refl _ _)
  have HW4 := Lib.hid hw4
  have SP : Hid (Calls Tryz.prog 120 #[.int .i64 t] w4.drew fun e w' => e = .returned (.bool b1) ∧ w' = w4.drew) := (span_is t b1 _ hb1).mono fun _ _ h => ⟨h.1, h.2.symm⟩
  have TM : Hid (Calls Tryz.prog 121 #[.int .i64 now] w4.drew fun e w' => e = .returned (.bool b2) ∧ w' = w4.drew) := (time_is now b2 _ hb2).mono fun _ _ h => ⟨h.1, h.2.symm⟩
  clear FD h1 h2 h3 h4 h5 h6 hw4 hb1 hb2
  cases b1 with
  | true =>
    have hr2 : b2 = r := by simpa using hr
    subst hr2
    clear hr
    go_enter Tryz.func79, Tryz.ntmps79
    go_wp2
    rw [HW4.out]
    go_still_tail 9, (by kernel_rfl)
    still_call SP.out
    repeat still_step
    still_call TM.out
    repeat still_step
    refine wpStill_nil ?_
    go_wp2_with (go_at_call 119; refine (F.out _ B4.out).mono ?_; rintro e w2 ⟨rfl, HF⟩)
    go_ret
    exact ⟨rfl, HF⟩
  | false =>
    have hr2 : false = r := by simpa using hr
    subst hr2
    clear hr TM
    go_enter Tryz.func79, Tryz.ntmps79
    go_wp2
    rw [HW4.out]
    go_still_tail 9, (by kernel_rfl)
    still_call SP.out
    repeat still_step
    refine wpStill_nil ?_
    go_wp2_with (go_at_call 119; refine (F.out _ B4.out).mono ?_; rintro e w2 ⟨rfl, HF⟩)
    go_ret
    exact ⟨rfl, HF⟩
theorem drenew_inv (p : Option Addr) (x y z t now : Int) (w : World) (h : DInv w p) : Calls Tryz.prog 79 #[.pointer p, .agg #[.int .i64 x, .int .i64 y, .int .u32 z], .int .i64 t, .int .i64 now] w fun e w' => e = .returned (.int .i64 1) ∧ Below w.heap.size w w' :=
  (renew_of p x y z t now 1 (fun w' => Below w.heap.size w w') _ _ _ w rfl rfl rfl fun W hW _ _ _ => (found_inv p x y z _ _ W (h.below hW)).mono fun _ _ ⟨h1, h2⟩ => ⟨h1, bel2 hW h2⟩).mono fun _ _ ⟨h1, h2⟩ => ⟨h1, h2.out⟩
theorem drenew_ok (b k a : Nat) (D : Dk) (x y z t now : Int) (hr : RgO x y z) (w : World) (h : DkW w b k a D) : Calls Tryz.prog 79 #[.pointer (some ⟨b, 0, none⟩), .agg #[.int .i64 x, .int .i64 y, .int .u32 z], .int .i64 t, .int .i64 now] w (RetV b k a D (D.renew x y z t now) (D.rE x y z t now) w) := by
  by_cases ha : IsSpan t ∧ IsTime now
  · by_cases h0 : D.chk x y z = 0
    · have hE := Dk.rE_held ha.1 ha.2 h0
      obtain ⟨rfl, i, rfl, hi, hs, rfl⟩ := Dk.chk_is h0
      rw [Int.toNat_natCast] at hE
      have hi64 : i < 64 := by have := h.ok.hi; omega
      have key : ∀ (E : Int) (U : Dk), (∀ W, Below w.heap.size w W → Bk W w.heap.size 90 #[.pointer (some ⟨b, 0, none⟩)] → Bk W (w.heap.size + 1 + 1) 2 #[.int .i64 t] → Bk W (w.heap.size + 1 + 1 + 1) 2 #[.int .i64 now] → Calls Tryz.prog 122 #[.agg #[.int .i64 i, .int .u32 (D.t.g i)], .pointer (some ⟨w.heap.size, 0, none⟩), .pointer (some ⟨w.heap.size + 1 + 1 + 1, 0, none⟩), .pointer (some ⟨w.heap.size + 1 + 1, 0, none⟩)] W fun e w' => e = .returned (.int .i64 E) ∧ Hid (Rn1 b k a U W w')) →
          Calls Tryz.prog 79 #[.pointer (some ⟨b, 0, none⟩), .agg #[.int .i64 3, .int .i64 i, .int .u32 (D.t.g i)], .int .i64 t, .int .i64 now] w (RetV b k a D U E w) := fun E U hc => by
        refine (renew_of (some ⟨b, 0, none⟩) 3 i (D.t.g i) t now E (Rn1 b k a U w) true true true w (by simpa using ha.1) (by simpa using ha.2) rfl fun W hW hB hT hN => ?_).mono fun _ _ ⟨h1, h2⟩ => ⟨h1, h2.out.1, h2.out.2⟩
        refine found_renew _ _ _ b k a i D E _ W (h.below hW) hi hs fun W' hW' => ?_
        exact (hc W' (bel2 hW hW') (hB.below hW') (hT.below hW') (hN.below hW')).mono fun _ _ ⟨h1, h2⟩ => ⟨h1, h2.out.1, (Kept.of_below (bel2 hW hW')).trans h2.out.2⟩
      by_cases c1 : (D.u i : Int) ≤ now
      · rw [if_pos c1] at hE
        rw [hE, Dk.renew_ne (by omega)]
        exact key 8 D fun W hW hB hT hN => renew1_over _ _ _ b k a i _ now t D W (h.below hW) hi64 hB hN hT c1
      · rw [if_neg c1] at hE
        by_cases c2 : now + t ≤ 1099511627776
        · rw [if_pos c2] at hE
          have e1 : D.renew 3 i (D.t.g i) t now = D.until i (now + t).toNat := by unfold Dk.renew; rw [if_pos hE, Int.toNat_natCast]
          rw [hE, e1]
          exact key 0 _ fun W hW hB hT hN => renew1_ok _ _ _ b k a i _ now t D W (h.below hW) hi64 hB hN hT (by omega) ha.1 ha.2 c2
        · rw [if_neg c2] at hE
          rw [hE, Dk.renew_ne (by omega)]
          exact key 17 D fun W hW hB hT hN => renew1_late _ _ _ b k a i _ now t D W (h.below hW) hi64 hB hN hT (by omega) ha.1 ha.2 (by omega)
    · have hE := Dk.rE_chk (k := x) (i := y) (g := z) ha.1 ha.2 h0
      rw [Dk.renew_ne (by rw [hE]; exact h0), hE]
      refine (renew_of (some ⟨b, 0, none⟩) x y z t now (D.chk x y z) (fun w' => Below w.heap.size w w') true true true w (by simpa using ha.1) (by simpa using ha.2) rfl fun W hW _ _ _ => ?_).mono fun _ _ ⟨h1, h2⟩ => ⟨h1, h.below h2.out, Kept.of_below h2.out⟩
      exact (found_no b k a D x y z hr h0 _ W (h.below hW)).mono fun _ _ ⟨h1, h2⟩ => ⟨h1, bel2 hW h2⟩
  · have hE := Dk.rE_arg (D := D) (k := x) (i := y) (g := z) ha
    rw [Dk.renew_ne (by omega), hE]
    refine (renew_of (some ⟨b, 0, none⟩) x y z t now 2 (fun w' => Below w.heap.size w w') _ _ false w rfl rfl (by simpa using ha) fun W hW _ _ _ => ?_).mono fun _ _ ⟨h1, h2⟩ => ⟨h1, h.below h2.out, Kept.of_below h2.out⟩
    exact (found_not b k x y z hr _ W (h.below hW).c0).mono fun _ _ ⟨h1, h2⟩ => ⟨h1, bel2 hW h2⟩
end Go.Proofs.YtpinmiplefidpaaGreatDoor.LS

namespace Go.Proofs.YtpinmiplefidpaaGreatDoor.LS
open Go.RowKit

/-- What Grant says of a desk, and what it leaves. -/
def GraV (b k a : Nat) (D : Dk) (x now : Int) (w : World) (e : Ending) (w' : World) : Prop :=
  e = .returned (.tuple #[.agg #[.int .i64 (D.gK x now), .int .i64 (D.gI x now), .int .u32 (D.gG x now)], .int .i64 (D.gE x now)]) ∧ DkW w' b k a (D.grant x now) ∧ Kept (DFoot b k a) w w'
set_option maxRecDepth 100000 in
theorem dgrant_inv (p : Option Addr) (x now : Int) (w : World) (h : DInv w p) : Calls Tryz.prog 211 #[.pointer p, .int .i64 x, .int .i64 now] w fun e w' => e = .returned (.tuple #[.agg #[.int .i64 0, .int .i64 0, .int .u32 0], .int .i64 1]) ∧ Below w.heap.size w w' := by
  have H := Lib.hid (h.below ((Below.refl _ w).alloc (Nat.le_refl _) (.cells #[.int .i64 0, .int .i64 0, .int .u32 0] 25)))
  clear h
  go_enter Tryz.func211, Tryz.ntmps211
  go_wp2_with (go_at_call 140; refine (dvalid_no _ _ H.out).mono ?_; rintro e w' ⟨rfl, rfl⟩)
  refine bodyPost_ret (v := .tuple #[.agg #[.int .i64 0, .int .i64 0, .int .u32 0], .int .i64 1]) (by simp [results, Tryz.results211, go_sem]) rfl ⟨rfl, ?_⟩
  exact (Below.refl _ w).alloc (Nat.le_refl _) _
set_option maxRecDepth 100000 in
theorem dgrant_arg (b k : Nat) (x now : Int) (w : World) (hc : w.cell? ⟨b, 0, none⟩ = some (.pointer (some ⟨k, 0, none⟩))) (hx : ¬ (IsSpan x ∧ IsTime now)) : Calls Tryz.prog 211 #[.pointer (some ⟨b, 0, none⟩), .int .i64 x, .int .i64 now] w fun e w' => e = .returned (.tuple #[.agg #[.int .i64 0, .int .i64 0, .int .u32 0], .int .i64 2]) ∧ Below w.heap.size w w' := by
  have H := Lib.hid (cell_keeps ((Below.refl _ w).alloc (Nat.le_refl _) (.cells #[.int .i64 0, .int .i64 0, .int .u32 0] 25)) hc)
  clear hc
  by_cases h1 : IsSpan x
  · have S := Lib.hid h1
    have T : Hid (¬ IsTime now) := fun e => hx ⟨h1, e⟩
    clear hx h1
    go_enter Tryz.func211, Tryz.ntmps211
    go_wp2_with (first
      | (go_at_call 140; refine (dvalid_yes _ k _ H.out).mono ?_; rintro e w' ⟨rfl, rfl⟩)
      | (go_at_call 120; refine (span_yes _ _ S.out).mono ?_; rintro e w' ⟨rfl, rfl⟩)
      | (go_at_call 121; refine (time_no _ _ T.out).mono ?_; rintro e w' ⟨rfl, rfl⟩))
    refine bodyPost_ret (v := .tuple #[.agg #[.int .i64 0, .int .i64 0, .int .u32 0], .int .i64 2]) (by simp [results, Tryz.results211, go_sem]) rfl ⟨rfl, ?_⟩
    exact (Below.refl _ w).alloc (Nat.le_refl _) _
  · have S := Lib.hid h1
    clear hx h1
    go_enter Tryz.func211, Tryz.ntmps211
    go_wp2_with (first
      | (go_at_call 140; refine (dvalid_yes _ k _ H.out).mono ?_; rintro e w' ⟨rfl, rfl⟩)
      | (go_at_call 120; refine (span_no _ _ S.out).mono ?_; rintro e w' ⟨rfl, rfl⟩))
    refine bodyPost_ret (v := .tuple #[.agg #[.int .i64 0, .int .i64 0, .int .u32 0], .int .i64 2]) (by simp [results, Tryz.results211, go_sem]) rfl ⟨rfl, ?_⟩
    exact (Below.refl _ w).alloc (Nat.le_refl _) _
set_option maxHeartbeats 1000000 in
set_option maxRecDepth 100000 in
theorem dgrant_late (b k : Nat) (x now : Int) (w : World) (hc : w.cell? ⟨b, 0, none⟩ = some (.pointer (some ⟨k, 0, none⟩))) (hx : IsSpan x) (hn : IsTime now) (hl : 1099511627776 < now + x) : Calls Tryz.prog 211 #[.pointer (some ⟨b, 0, none⟩), .int .i64 x, .int .i64 now] w fun e w' => e = .returned (.tuple #[.agg #[.int .i64 0, .int .i64 0, .int .u32 0], .int .i64 17]) ∧ Below w.heap.size w w' := by
  have H := Lib.hid (cell_keeps ((Below.refl _ w).alloc (Nat.le_refl _) (.cells #[.int .i64 0, .int .i64 0, .int .u32 0] 25)) hc)
  have S := Lib.hid hx
  have T := Lib.hid hn
  have T2 : Hid (¬ IsTime (now + x)) := by unfold Hid IsTime; omega
  have hwr : IntKind.i64.wrap (now + x) = now + x := by obtain ⟨_, _⟩ := hx; obtain ⟨_, _⟩ := hn; rw [IntKind.wrap_i64]; omega
  clear hc hx hn
  go_enter Tryz.func211, Tryz.ntmps211
  go_wp2_with (first
    | (go_at_call 140; refine (dvalid_yes _ k _ H.out).mono ?_; rintro e w' ⟨rfl, rfl⟩)
    | (go_at_call 120; refine (span_yes _ _ S.out).mono ?_; rintro e w' ⟨rfl, rfl⟩)
    | (go_at_call 121; refine (time_yes _ _ T.out).mono ?_; rintro e w' ⟨rfl, rfl⟩)
    | (go_at_call 121; refine (time_no _ _ T2.out).mono ?_; rintro e w' ⟨rfl, rfl⟩))
  refine bodyPost_ret (v := .tuple #[.agg #[.int .i64 0, .int .i64 0, .int .u32 0], .int .i64 17]) (by simp [results, Tryz.results211, go_sem]) rfl ⟨rfl, ?_⟩
  exact (Below.refl _ w).alloc (Nat.le_refl _) _
/-- Three cells written. -/
theorem three_put {W : World} {g : Nat} {t : TypeId} {a b c : Value} (h : Bk W g t #[a, b, c]) (x y z : Value) : Bk (((W.setCell ⟨g, 0, none⟩ x).setCell ⟨g, 1, none⟩ y).setCell ⟨g, 2, none⟩ z) g t #[x, y, z] := ((h.put 0 x).put 1 y).put 2 z
theorem laid3 {W : World} {g : Nat} {t : TypeId} {a b c : Value} (h : Bk W g t #[a, b, c]) : W.cell? ⟨g, 0, none⟩ = some a ∧ W.cell? ⟨g, 1, none⟩ = some b ∧ W.cell? ⟨g, 2, none⟩ = some c ∧ W.frozen? ⟨g, 0, none⟩ = false ∧ W.frozen? ⟨g, 1, none⟩ = false ∧ W.frozen? ⟨g, 2, none⟩ = false := ⟨h.cell 0, h.cell 1, h.cell 2, h.frozen 0, h.frozen 1, h.frozen 2⟩
set_option maxHeartbeats 2000000 in
set_option maxRecDepth 100000 in
theorem dgrant_full (b k a : Nat) (D : Dk) (x now : Int) (w : World) (h : DkW w b k a D) (hx : IsSpan x) (hn : IsTime now) (hl : now + x ≤ 1099511627776) (h4 : D.t.free = []) : Calls Tryz.prog 211 #[.pointer (some ⟨b, 0, none⟩), .int .i64 x, .int .i64 now] w fun e w' => e = .returned (.tuple #[.agg #[.int .i64 0, .int .i64 0, .int .u32 0], .int .i64 4]) ∧ DkW w' b k a D ∧ Kept (DFoot b k a) w w' := by
  obtain ⟨w4, hw4⟩ : ∃ w4, w.alloc (.cells #[.int .i64 0, .int .i64 0, .int .u32 0] 25) = w4 := ⟨_, rfl⟩
  have B4 : Below w.heap.size w w4 := by rw [← hw4]; exact (Below.refl _ w).alloc (Nat.le_refl _) _
  have n4 : Bk w4 w.heap.size 25 #[.int .i64 0, .int .i64 0, .int .u32 0] := by rw [← hw4]; exact Bk.new w _ _
  have c0 := (h.below B4).c0
  have TK : Hid (Calls Tryz.prog 188 #[.pointer (some ⟨k, 0, none⟩)] w4 fun e w' => e = .returned (.tuple #[.agg #[.int .i64 0, .int .u32 0], .int .i64 4]) ∧ (DkW w' b k a D ∧ Kept (DFoot b k a) w w') ∧ Bk w' w.heap.size 25 #[.int .i64 0, .int .i64 0, .int .u32 0]) := by
    refine (take_ok k D.t w4 (h.below B4).tab).mono ?_
    rintro e w' ⟨rfl, hT, hk⟩
    have e1 : D.t.take = D.t := by unfold Tb.take; rw [h4]
    have e2 : D.t.tI = 0 := by unfold Tb.tI; rw [h4]
    have e3 : D.t.tG = 0 := by unfold Tb.tG; rw [h4]
    have e4 : D.t.tE = 4 := by unfold Tb.tE; rw [h4]
    rw [e2, e3, e4]
    rw [e1] at hT
    have hkl := h.tab.bt
    exact ⟨rfl, ⟨⟨h.ok, (h.below B4).hb.kept hk h.bk, (h.below B4).ha.kept hk (fun e => h.ka e.symm), hT⟩, (Kept.of_below B4).trans (hk.mono fun _ _ e => .inr (.inl e))⟩, n4.kept hk (by omega)⟩
  have FT : Hid (∀ g, DFoot b k a g → g < w.heap.size) := fun g hg => h.foot_lt hg
  have HW4 := Lib.hid hw4
  have S := Lib.hid hx
  have T := Lib.hid hn
  have T2 : Hid (IsTime (now + x)) := by obtain ⟨_, _⟩ := hx; obtain ⟨_, _⟩ := hn; unfold Hid IsTime; omega
  have hwr : IntKind.i64.wrap (now + x) = now + x := by obtain ⟨_, _⟩ := hx; obtain ⟨_, _⟩ := hn; rw [IntKind.wrap_i64]; omega
  rw [← hw4] at c0 TK
  clear h B4 n4 hw4 h4 hx hn
  go_enter Tryz.func211, Tryz.ntmps211
  go_wp2_with (first
    | (go_at_call 140; refine (dvalid_yes _ k _ c0).mono ?_; rintro e w' ⟨rfl, rfl⟩)
    | (go_at_call 120; refine (span_yes _ _ S.out).mono ?_; rintro e w' ⟨rfl, rfl⟩)
    | (go_at_call 121; refine (time_yes _ _ T.out).mono ?_; rintro e w' ⟨rfl, rfl⟩)
    | (go_at_call 121; refine (time_yes _ _ T2.out).mono ?_; rintro e w' ⟨rfl, rfl⟩)
    | (go_at_call 188; refine TK.out.mono ?_; rintro e w6 ⟨rfl, hp, hO⟩; have HP := Lib.hid hp; have HO := Lib.hid hO; obtain ⟨d0, d1, d2, f0, f1, f2⟩ := laid3 hO; have hl6 := hO.lt; clear hp hO))
  have HT := Lib.hid ((three_put HO.out (.int .i64 0) (.int .i64 0) (.int .u32 0)).up (.cells #[.int .i64 0, .int .u32 0] 193))
  have t0 := HT.out.cell 0
  have t1 := HT.out.cell 1
  have t2 := HT.out.cell 2
  simp only [List.getElem?_toArray, List.getElem?_cons_zero, List.getElem?_cons_succ] at t0 t1 t2
  refine bodyPost_ret (v := .tuple #[.agg #[.int .i64 0, .int .i64 0, .int .u32 0], .int .i64 4]) (by simp [results, Tryz.results211, go_sem, t0, t1, t2]) rfl ⟨rfl, ?_⟩
  have hkp := (((((Kept.refl (· = w.heap.size) w6).put1 0 (.int .i64 0)).put1 1 (.int .i64 0)).put1 2 (.int .u32 0)).alloc (.cells #[.int .i64 0, .int .u32 0] 193))
  exact ⟨HP.out.1.kept hkp (fun g hg e => by have := FT.out g hg; omega), HP.out.2.self (hkp.mono fun g _ e => Or.inr (Nat.le_of_eq e.symm))⟩
theorem dtook_put {w : World} {b k a i y : Nat} {D : Dk} (h : DkW w b k a ⟨D.t.took i, D.u⟩) (hy : y ≤ 1099511627776) : DkW (w.setCell ⟨a, i, none⟩ (.int .i64 y)) b k a (D.took i y) := duntil h hy
set_option maxHeartbeats 4000000 in
set_option maxRecDepth 100000 in
theorem dgrant_yes (b k a : Nat) (D : Dk) (x now : Int) (w : World) (h : DkW w b k a D) (hx : IsSpan x) (hn : IsTime now) (hl : now + x ≤ 1099511627776) (i : Nat) (r : List Nat) (h4 : D.t.free = i :: r) : Calls Tryz.prog 211 #[.pointer (some ⟨b, 0, none⟩), .int .i64 x, .int .i64 now] w fun e w' => e = .returned (.tuple #[.agg #[.int .i64 3, .int .i64 i, .int .u32 (D.t.g i)], .int .i64 0]) ∧ DkW w' b k a (D.took i (now + x).toNat) ∧ Kept (DFoot b k a) w w' := by
  obtain ⟨hin, _⟩ := Tb.free_lt h4
  have hi := h.ok.hi
  have hg1 := h.ok.t.gm i
  obtain ⟨w4, hw4⟩ : ∃ w4, w.alloc (.cells #[.int .i64 0, .int .i64 0, .int .u32 0] 25) = w4 := ⟨_, rfl⟩
  have B4 : Below w.heap.size w w4 := by rw [← hw4]; exact (Below.refl _ w).alloc (Nat.le_refl _) _
  have n4 : Bk w4 w.heap.size 25 #[.int .i64 0, .int .i64 0, .int .u32 0] := by rw [← hw4]; exact Bk.new w _ _
  have c0 := (h.below B4).c0
  have TK : Hid (Calls Tryz.prog 188 #[.pointer (some ⟨k, 0, none⟩)] w4 fun e w' => e = .returned (.tuple #[.agg #[.int .i64 i, .int .u32 (D.t.g i)], .int .i64 0]) ∧ (DkW w' b k a ⟨D.t.took i, D.u⟩ ∧ Kept (DFoot b k a) w w') ∧ Bk w' w.heap.size 25 #[.int .i64 0, .int .i64 0, .int .u32 0]) := by
    refine (take_ok k D.t w4 (h.below B4).tab).mono ?_
    rintro e w' ⟨rfl, hT, hk⟩
    have e1 : D.t.take = D.t.took i := by unfold Tb.take; rw [h4]
    have e2 : D.t.tI = i := by unfold Tb.tI; rw [h4]
    have e3 : D.t.tG = D.t.g i := by unfold Tb.tG; rw [h4]
    have e4 : D.t.tE = 0 := by unfold Tb.tE; rw [h4]
    rw [e2, e3, e4]
    rw [e1] at hT
    have hkl := h.tab.bt
    exact ⟨rfl, ⟨⟨⟨h.ok.t.took i, h.ok.hi, h.ok.u⟩, (h.below B4).hb.kept hk h.bk, (h.below B4).ha.kept hk (fun e => h.ka e.symm), hT⟩, (Kept.of_below B4).trans (hk.mono fun _ _ e => .inr (.inl e))⟩, n4.kept hk (by omega)⟩
  have FT : Hid (∀ g, DFoot b k a g → g < w.heap.size) := fun g hg => h.foot_lt hg
  have HW4 := Lib.hid hw4
  have S := Lib.hid hx
  have T := Lib.hid hn
  have T2 : Hid (IsTime (now + x)) := by obtain ⟨_, _⟩ := hx; obtain ⟨_, _⟩ := hn; unfold Hid IsTime; omega
  have hwr : IntKind.i64.wrap (now + x) = now + x := by obtain ⟨_, _⟩ := hx; obtain ⟨_, _⟩ := hn; rw [IntKind.wrap_i64]; omega
  obtain ⟨y, hy⟩ : ∃ y : Nat, (now + x).toNat = y := ⟨_, rfl⟩
  have HY : Hid (now + x = (y : Int) ∧ y ≤ 1099511627776) := by obtain ⟨_, _⟩ := hx; obtain ⟨_, _⟩ := hn; unfold Hid; omega
  rw [hy]
  have hi64 : (i : Int) < 64 := by omega
  have hiN : i < 64 := by omega
  rw [← hw4] at c0 TK
  clear h B4 n4 hw4 h4 hx hn hy
  obtain ⟨G, hG⟩ : ∃ G, D.t.g i = G := ⟨_, rfl⟩
  rw [hG] at hg1 TK ⊢
  obtain ⟨M, hM⟩ : ∃ M, D.u i = M := ⟨_, rfl⟩
  have HM := Lib.hid hM
  clear hG hM
  go_enter Tryz.func211, Tryz.ntmps211
  go_wp2_with (first
    | (go_at_call 140; refine (dvalid_yes _ k _ c0).mono ?_; rintro e w' ⟨rfl, rfl⟩)
    | (go_at_call 120; refine (span_yes _ _ S.out).mono ?_; rintro e w' ⟨rfl, rfl⟩)
    | (go_at_call 121; refine (time_yes _ _ T.out).mono ?_; rintro e w' ⟨rfl, rfl⟩)
    | (go_at_call 121; refine (time_yes _ _ T2.out).mono ?_; rintro e w' ⟨rfl, rfl⟩)
    | (go_at_call 188; refine TK.out.mono ?_; rintro e w6 ⟨rfl, hp, hO⟩; have HP := Lib.hid hp; have HO := Lib.hid hO; clear hp hO))
  obtain ⟨W8, h8⟩ : ∃ W8, w6.alloc (.cells #[.int .i64 i, .int .u32 G] 193) = W8 := ⟨_, rfl⟩
  obtain ⟨I, hI⟩ : ∃ I, w6.heap.size = I := ⟨_, rfl⟩
  have p8 : DkW W8 b k a ⟨D.t.took i, D.u⟩ := by rw [← h8]; exact HP.out.1.below ((Below.refl _ _).alloc (Nat.le_refl _) _)
  have o8 : Bk W8 w.heap.size 25 #[.int .i64 0, .int .i64 0, .int .u32 0] := by rw [← h8]; exact HO.out.up _
  have i8 : Bk W8 I 193 #[.int .i64 i, .int .u32 G] := by rw [← h8, ← hI]; exact Bk.new w6 _ _
  have k8 : Kept (DFoot b k a) w W8 := by rw [← h8]; exact HP.out.2.alloc _
  have hIg : w.heap.size < I := by rw [← hI]; exact HO.out.lt
  rw [h8, hI]
  clear h8 hI HP HO c0 TK
  have x0 := p8.c1
  have x1 := p8.ca hiN
  have x2 := p8.fz i
  have x5 := i8.cell 0
  simp only [List.getElem?_toArray, List.getElem?_cons_zero, HM.out] at x1 x5
  have HL := Lib.hid (And.intro p8 (And.intro o8 (And.intro i8 (And.intro k8 hIg))))
  clear p8 o8 i8 k8 hIg
  go_region
  obtain ⟨W9, h9⟩ : ∃ W9, (W8.setCell ⟨a, i, none⟩ (.int .i64 (now + x))).drew = W9 := ⟨_, rfl⟩
  obtain ⟨p8, o8, i8, k8, hIg⟩ := HL.out
  have e9 : ∀ g, g ≠ a → W9.heap[g]? = W8.heap[g]? := fun g hg => by rw [← h9]; exact Below.heap_setCell _ _ _ _ hg
  have p9 : DkW W9 b k a (D.took i y) := by
    have := dtook_put p8 HY.out.2
    rw [← HY.out.1] at this
    rw [← h9]; exact this.drewN 1
  have hs1 : a ≠ w.heap.size := by have := FT.out a (.inr (.inr rfl)); omega
  have hs2 : a ≠ I := by have := FT.out a (.inr (.inr rfl)); omega
  have o9 := o8.same (e9 w.heap.size (fun e => hs1 e.symm))
  have i9 := i8.same (e9 I (fun e => hs2 e.symm))
  have k9 : Kept (DFoot b k a) w W9 := by rw [← h9]; exact (k8.put (p := ⟨a, i, none⟩) (.inr (.inr (.inr rfl))) _).drew
  rw [h9]
  clear h9 e9 p8 o8 i8 k8 HL x0 x1 x2 x5 hs1 hs2
  have j0 := i9.cell 0
  have j1 := i9.cell 1
  simp only [List.getElem?_toArray, List.getElem?_cons_zero, List.getElem?_cons_succ] at j0 j1
  have HL := Lib.hid (And.intro p9 (And.intro o9 (And.intro k9 (And.intro hIg i9.lt))))
  clear p9 o9 i9 k9 hIg
  go_wp2_with (go_at_call 181; refine (lease_ok i G W9 (by omega) (by omega) (by omega) (by omega)).mono ?_; rintro e w10 ⟨rfl, hb10⟩; have HB10 := Lib.hid hb10; obtain ⟨d0, d1, d2, f0, f1, f2⟩ := laid3 (HL.out.2.1.below hb10); clear hb10)
  have HO := Lib.hid (HL.out.2.1.below HB10.out)
  have t := three_put HO.out (.int .i64 3) (.int .i64 i) (.int .u32 G)
  have t0 := t.cell 0
  have t1 := t.cell 1
  have t2 := t.cell 2
  simp only [List.getElem?_toArray, List.getElem?_cons_zero, List.getElem?_cons_succ] at t0 t1 t2
  refine bodyPost_ret (v := .tuple #[.agg #[.int .i64 3, .int .i64 i, .int .u32 G], .int .i64 0]) (by simp [results, Tryz.results211, go_sem, t0, t1, t2]) rfl ⟨rfl, ?_⟩
  have hkp := ((((Kept.refl (· = w.heap.size) w10).put1 0 (.int .i64 3)).put1 1 (.int .i64 i)).put1 2 (.int .u32 G))
  exact ⟨(HL.out.1.below HB10.out).kept hkp (fun g hg e => by have := FT.out g hg; omega), (HL.out.2.2.1.trans (Kept.of_below HB10.out)).self (hkp.mono fun g _ e => Or.inr (Nat.le_of_eq e.symm))⟩
/-- Grant, whatever is asked. -/
theorem dgrant_ok (b k a : Nat) (D : Dk) (x now : Int) (w : World) (h : DkW w b k a D) : Calls Tryz.prog 211 #[.pointer (some ⟨b, 0, none⟩), .int .i64 x, .int .i64 now] w (GraV b k a D x now w) := by
  unfold GraV
  rcases D.g_cases x now with ⟨h1, h2⟩ | ⟨h1, h2, h3, h4⟩ | ⟨h1, h2, h3, h4, h5⟩ | ⟨h1, h2, h3, i, r, h4, h5⟩
  · obtain ⟨e1, e2, e3, e4⟩ := Dk.grant_ne (D := D) (x := x) (now := now) (by omega)
    rw [e1, e2, e3, e4, h2]
    exact (dgrant_arg b k x now w h.c0 h1).mono fun _ _ ⟨g1, g2⟩ => ⟨g1, h.below g2, Kept.of_below g2⟩
  · obtain ⟨e1, e2, e3, e4⟩ := Dk.grant_ne (D := D) (x := x) (now := now) (by omega)
    rw [e1, e2, e3, e4, h4]
    exact (dgrant_late b k x now w h.c0 h1 h2 h3).mono fun _ _ ⟨g1, g2⟩ => ⟨g1, h.below g2, Kept.of_below g2⟩
  · obtain ⟨e1, e2, e3, e4⟩ := Dk.grant_ne (D := D) (x := x) (now := now) (by omega)
    rw [e1, e2, e3, e4, h5]
    exact dgrant_full b k a D x now w h h1 h2 h3 h4
  · obtain ⟨e1, e2, e3, e4⟩ := Dk.grant_zero h5 h4
    rw [e1, e2, e3, e4, h5]
    exact dgrant_yes b k a D x now w h h1 h2 h3 i r h4
end Go.Proofs.YtpinmiplefidpaaGreatDoor.LS

namespace Go.Proofs.YtpinmiplefidpaaGreatDoor.LS
open Go.RowKit

theorem pairs_at : ∀ (l : List (Nat × Nat)) (j : Nat) (r : Nat × Nat), l[j]? = some r → (pairs l)[j * 2]? = some (.int .i64 r.1) ∧ (pairs l)[j * 2 + 1]? = some (.int .u32 r.2)
  | [], j, r, h => by simp at h
  | a :: l, 0, r, h => by
    simp at h; subst h
    simp [pairs]
  | a :: l, j + 1, r, h => by
    simp at h
    have ih := pairs_at l j r h
    have e : pairs (a :: l) = .int .i64 a.1 :: .int .u32 a.2 :: pairs l := rfl
    have e1 : (j + 1) * 2 = j * 2 + 1 + 1 := by omega
    rw [e, e1, List.getElem?_cons_succ, List.getElem?_cons_succ, List.getElem?_cons_succ, List.getElem?_cons_succ]
    exact ih

/-- The slice value v reads as the references l. -/
def Sr (w : World) (v : Value) (l : List (Nat × Nat)) : Prop :=
  ∃ a c, v = .slice a l.length c ∧ (0 < l.length → ∃ g cur, a = some ⟨g, 0, none⟩ ∧ Bk w g 193 cur ∧ ∀ j r, l[j]? = some r → cur[j * 2]? = some (.int .i64 r.1) ∧ cur[j * 2 + 1]? = some (.int .u32 r.2))
theorem Sr.below {w w' : World} {v : Value} {l : List (Nat × Nat)} (h : Sr w v l) (hb : Below w.heap.size w w') : Sr w' v l := by
  obtain ⟨a, c, e, h⟩ := h
  refine ⟨a, c, e, fun h0 => ?_⟩
  obtain ⟨g, cur, e2, hg, hc⟩ := h h0
  exact ⟨g, cur, e2, hg.below hb, hc⟩
theorem Sr.kept {w w' : World} {v : Value} {l : List (Nat × Nat)} {b : Nat} {T : Tb} (h : Sr w v l) (k : Kept (· = b) w w') (ht : TabW w b T) : Sr w' v l := by
  obtain ⟨a, c, e, h⟩ := h
  refine ⟨a, c, e, fun h0 => ?_⟩
  obtain ⟨g, cur, e2, hg, hc⟩ := h h0
  have hn : g ≠ b := by rintro rfl; exact absurd (hg.uniq ht.bk).1 (by decide)
  exact ⟨g, cur, e2, hg.kept k hn, hc⟩
theorem Sr.of_own {w : World} {b : Nat} {v : Value} {l : List (Nat × Nat)} (h : w.ownsRow b 193 2 v l.length (pairs l)) : Sr w v l := by
  rcases h.2 with ⟨rfl, h0⟩ | ⟨g, cap, cur, rfl, h1, h2, h3, h4, h5, h6⟩
  · have : l = [] := List.eq_nil_of_length_eq_zero h0
    subst this
    exact ⟨none, 0, rfl, fun h => by simp at h⟩
  · refine ⟨_, cap, rfl, fun _ => ⟨g, cur, rfl, h2, fun j r hj => ?_⟩⟩
    have hjl : j < l.length := (List.getElem?_eq_some_iff.1 hj).1
    have := pairs_at l j r hj
    rw [← h6, List.getElem?_take_of_lt (by omega), List.getElem?_take_of_lt (by omega), Array.getElem?_toList, Array.getElem?_toList] at this
    exact this
theorem Sr.at {w : World} {a : Option Addr} {n c : Nat} {l : List (Nat × Nat)} (h : Sr w (.slice a n c) l) {j : Nat} {r : Nat × Nat} (hj : l[j]? = some r) : ∃ g, a = some ⟨g, 0, none⟩ ∧ g < w.heap.size ∧ w.cell? ⟨g, j * 2, none⟩ = some (.int .i64 r.1) ∧ w.cell? ⟨g, j * 2 + 1, none⟩ = some (.int .u32 r.2) := by
  obtain ⟨a', c', e, h⟩ := h
  injection e with e1 e2 e3
  subst e1
  have hjl : j < l.length := (List.getElem?_eq_some_iff.1 hj).1
  obtain ⟨g, cur, e2, hg, hc⟩ := h (by omega)
  exact ⟨g, e2, hg.lt, by rw [hg.cell]; exact (hc j r hj).1, by rw [hg.cell]; exact (hc j r hj).2⟩
theorem Sr.len {w : World} {v : Value} {l : List (Nat × Nat)} (h : Sr w v l) : ∃ a c, v = .slice a l.length c := by
  obtain ⟨a, c, e, _⟩ := h
  exact ⟨a, c, e⟩

/-- Taken, told by what its slice reads as. -/
def TkS (l : List (Nat × Nat)) (w : World) (e : Ending) (w' : World) : Prop := ∃ a c, e = .returned (.slice a l.length c) ∧ Sr w' (.slice a l.length c) l ∧ Below w.heap.size w w'
theorem taken_s (b : Nat) (T : Tb) (w : World) (h : TabW w b T) : Calls Tryz.prog 169 #[.pointer (some ⟨b, 0, none⟩)] w (TkS T.now w) := by
  refine (taken_ok b T w h).mono ?_
  rintro e w' ⟨v, rfl, h1, _, h3⟩
  have hs := Sr.of_own h1
  obtain ⟨a, c, rfl⟩ := hs.len
  exact ⟨a, c, rfl, hs, h3⟩


/-! ### one resource more -/
/-- What a slice of one's own is behind an append of one. -/
def AppO (base : Nat) (l : List Ro) (r : Ro) (v : Value) (w : World) (v' : Value) (w' : World) : Prop :=
  w'.ownsRow base 25 3 v' (l ++ [r]).length (ocls (l ++ [r])) ∧ Kept (fun g => v.ownBlock = some g) w w'
theorem app_o {W : World} {base x n : Nat} {p : Option Addr} {c : Nat} {l : List Ro} {r : Ro} (hn : l.length = n) (ho : W.ownsRow base 25 3 (.slice p n c) l.length (ocls l)) (hx : Bk W x 25 r.cl.toArray) (hl : l.length ≤ 1000) (hb : base ≤ W.heap.size) :
    ∃ p' c' W', (Builtin.append_ #[51, 51] 51 #[.slice p n c, .slice (some ⟨x, 0, none⟩) 1 1]).run Tryz.prog W = .ok (.slice p' (n + 1) c') W' ∧ AppO base l r (.slice p n c) W (.slice p' (n + 1) c') W' := by
  subst hn
  obtain ⟨j0, hj, hy0, hy1, hy2⟩ := info_parts info_out
  obtain ⟨v', W', hr, hown, hgr, _⟩ := run_append_own (P := Tryz.prog) (w := W) base 51 51 25 j0 _ 3 24 Tryz.underlying51 hj hy0 hy1 hy2 rfl (by decide) (.slice p l.length c) l.length (ocls l) ho
    ⟨x, 0, none⟩ 1 1 r.cl rfl (fun j u hj => by
      have e : (⟨x, 0, none⟩ : Addr).add j = ⟨x, j, none⟩ := by unfold Addr.add; split <;> simp_all
      rw [e, hx.cell]
      simpa using hj) (Ro.cl_one r) (by unfold maxLen; omega) (by omega) hb
  have ho2 : W'.ownsRow base 25 3 v' (l ++ [r]).length (ocls (l ++ [r])) := by
    rw [ocls_snoc, List.length_append]; exact hown
  obtain ⟨p', c', rfl⟩ := own_form ho2
  have e1 : (l ++ [r]).length = l.length + 1 := by simp
  refine ⟨p', c', W', by rw [← e1]; exact hr, by rw [← e1]; exact ho2, ⟨hgr.os, hgr.tape, hgr.output, hgr.size, fun k hk hs => hgr.block k hk fun e => hs e.symm⟩⟩

theorem wpList_app_o {w : World} {ops : Array Oper} {rest : List Oper} {o : Oper} {a : Act} {Q : Exit → Act → World → Prop} (hgd : o.guard = none) (s x : Operand)
    (ho : o.op = .call { callee := .builtin .append, args := #[s, x], argTypes := #[51, 51] }) {base n g : Nat} {p : Option Addr} {c : Nat} {l : List Ro} (r : Ro) (hs : a.eval s = .slice p n c) (hx : a.eval x = .slice (some ⟨g, 0, none⟩) 1 1)
    (hn : l.length = n) (hown : w.ownsRow base 25 3 (.slice p n c) l.length (ocls l)) (hg : Bk w g 25 r.cl.toArray) (hl : l.length ≤ 1000) (hb : base ≤ w.heap.size)
    (h : ∀ p' c' w', Hid (AppO base l r (.slice p n c) w (.slice p' (n + 1) c') w') → wpList Tryz.prog ops Q rest (a.put o.dst (.slice p' (n + 1) c')) w') : wpList Tryz.prog ops Q (o :: rest) a w := by
  subst hn
  obtain ⟨j0, hj, hy0, hy1, hy2⟩ := info_parts info_out
  refine wpList_append_own _ hgd s x 51 ho base 25 j0 _ 3 24 Tryz.underlying51 hj hy0 hy1 hy2 rfl (by decide) _ _ _ hs hown ⟨g, 0, none⟩ 1 1 r.cl hx rfl (fun j u hj => by
      have e : (⟨g, 0, none⟩ : Addr).add j = ⟨g, j, none⟩ := by unfold Addr.add; split <;> simp_all
      rw [e, hg.cell]
      simpa using hj) (Ro.cl_one r) (by unfold maxLen; omega) (by omega) hb fun v' w' h5 h6 _ => ?_
  have ho2 : w'.ownsRow base 25 3 v' (l ++ [r]).length (ocls (l ++ [r])) := by
    rw [ocls_snoc, List.length_append]; exact h5
  obtain ⟨p', c', rfl⟩ := own_form ho2
  have e1 : (l ++ [r]).length = l.length + 1 := by simp
  rw [e1]
  refine h p' c' w' ⟨by rw [← e1]; exact ho2, ⟨h6.os, h6.tape, h6.output, h6.size, fun k hk hs => h6.block k hk fun e => hs e.symm⟩⟩

/-! ### All -/
/-- A new slice that holds l. -/
def NewO (l : List Ro) (w : World) (e : Ending) (w' : World) : Prop :=
  ∃ p c, e = .returned (.slice p l.length c) ∧ w'.ownsRow w.heap.size 25 3 (.slice p l.length c) l.length (ocls l) ∧ Below w.heap.size w w'
set_option maxRecDepth 100000 in
theorem dall_no (p : Option Addr) (w : World) (h : DInv w p) : Calls Tryz.prog 179 #[.pointer p] w fun e w' => e = .returned (.slice none 0 0) ∧ w = w' := by
  have H := Lib.hid h
  clear h
  go_enter Tryz.func179, Tryz.ntmps179
  go_wp2_with (go_at_call 140; refine (dvalid_no _ _ H.out).mono ?_; rintro e w' ⟨rfl, rfl⟩)
  go_ret
  exact ⟨rfl, rfl⟩
theorem Dk.all_take {D : Dk} {j : Nat} {r : Nat × Nat} (h : D.t.now[j]? = some r) : D.all.take (j + 1) = D.all.take j ++ [lro r] := by
  have : D.all[j]? = some (lro r) := by simp [Dk.all, h]
  rw [List.take_add_one, this]; rfl
set_option maxHeartbeats 2000000 in
set_option maxRecDepth 100000 in
theorem dall_ok (b k a : Nat) (D : Dk) (w : World) (h : DkW w b k a D) : Calls Tryz.prog 179 #[.pointer (some ⟨b, 0, none⟩)] w (NewO D.all w) := by
  have hc := h.c0
  have TK := Lib.hid (taken_s k D.t w h.tab)
  have hN := h.ok.held_len
  rw [← D.all_len] at hN
  have hM : D.t.now.length = D.all.length := by rw [D.all_len, Tb.now_len]
  have HR : Hid (∀ r ∈ D.t.now, r.1 ≤ 256 ∧ r.2 ≤ 4294967295) := fun r hr => by
    have h1 := Tb.mem_now.1 hr
    have h2 := h.ok.hi
    have h3 := h.ok.t.gm r.1
    omega
  have HT : Hid (∀ j r, D.t.now[j]? = some r → D.all.take (j + 1) = D.all.take j ++ [lro r]) := fun j r => Dk.all_take
  clear h
  generalize D.t.now = L at *
  generalize D.all = A at *
  go_enter Tryz.func179, Tryz.ntmps179
  go_wp2_with (first
    | (go_at_call 140; refine (dvalid_yes _ _ _ hc).mono ?_; rintro e w' ⟨rfl, rfl⟩)
    | (go_at_call 169; refine TK.out.mono ?_; rintro e w1 ⟨a, c, rfl, hs, hb⟩; have HS := Lib.hid hs; have HB := Lib.hid hb; clear hs hb))
  clear hc TK
  generalize hn : L.length = n at *
  have O0 : Hid (w1.ownsRow w1.heap.size 25 3 (.slice none 0 0) (A.take 0).length (ocls (A.take 0))) := World.ownsRow_nil _ _ _ _
  go_loopw [3, 15] (fun v i wr => ∃ j p q, j ≤ n ∧ v = .slice p j q ∧ i = .int .i64 j ∧ Hid (wr.ownsRow w1.heap.size 25 3 (.slice p j q) (A.take j).length (ocls (A.take j))) ∧ Hid (Below w1.heap.size w1 wr)) (fun _ i _ => n - (intOf i).toNat)
  case atStart => exact ⟨0, none, 0, Nat.zero_le _, rfl, rfl, O0.out, Below.refl _ _⟩
  case round =>
    clear O0
    obtain ⟨j, p, q, hj, rfl, rfl, HO, HW⟩ := hrel
    by_cases hlt : j < n
    · obtain ⟨r, hr⟩ : ∃ r, L[j]? = some r := ⟨_, List.getElem?_eq_getElem (by omega)⟩
      obtain ⟨g, rfl, hg, c0, c1⟩ := (HS.out.below HW.out).at hr
      obtain ⟨h1, h2⟩ := HR.out r (List.mem_of_getElem? hr)
      have ht := HT.out j r hr
      have HH := Lib.hid ht
      clear hr ht
      obtain ⟨i, y⟩ := r
      simp only at h1 h2 c0 c1
      have hb1 : w1.heap.size ≤ wr.heap.size := HW.out.size
      have hb0 : w.heap.size ≤ w1.heap.size := HB.out.size
      go_wp2_with (first
        | (go_at_call 181; refine (lease_ok _ _ _ (by omega) (by omega) (by omega) (by omega)).mono ?_; rintro e w7 ⟨rfl, hb7⟩; have HB7 := Lib.hid (bel2 ((Below.refl _ wr).alloc (Nat.le_refl _) _) hb7); clear hb7)
        | (at_builtin; refine wpList_app_o rfl _ _ rfl ⟨3, i, y⟩ rfl rfl ?c1 ((own_below HO.out HB7.out).alloc _) (Bk.new w7 25 #[.int .i64 3, .int .i64 i, .int .u32 y]) ?c2 ?c3 ?_))
      case c1 => rw [List.length_take]; omega
      case c2 => rw [List.length_take]; omega
      case c3 => have := HB7.out.size; simp; omega
      intro p' c' w8 HA
      have HF : Hid (w8.ownsRow w1.heap.size 25 3 (.slice p' (j + 1) c') (A.take (j + 1)).length (ocls (A.take (j + 1))) ∧ Below w1.heap.size w1 w8) := by
        have h8 := HA.out
        unfold AppO at h8
        rw [← show (A.take (j + 1)) = A.take j ++ [⟨3, i, y⟩] from HH.out] at h8
        refine ⟨h8.1, (HW.out.trans (HB7.out.mono hb1)).trans ?_⟩
        have hbk : Below w7.heap.size w7 (w7.alloc (.cells #[.int .i64 3, .int .i64 i, .int .u32 y] 25)) := (Below.refl _ _).alloc (Nat.le_refl _) _
        refine (hbk.mono (Nat.le_trans hb1 HB7.out.size)).trans ?_
        exact h8.2.below (by have := HB7.out.size; simp; omega) fun g e => ((own_below HO.out HB7.out).lt g e).1
      clear HA
      go_wp2
      go_roundw
      case rel => exact ⟨j + 1, p', c', by omega, rfl, by go_num, HF.out.1, HF.out.2⟩
      case measure => simp [intOf]; omega
    · obtain rfl : j = n := by omega
      go_wp2
      go_ret
      have e1 : A.take j = A := List.take_of_length_le (by omega)
      have := HO.out
      rw [e1] at this
      rw [hM] at *
      exact ⟨p, q, rfl, own_lower this HB.out.size, HB.out.trans (HW.out.mono HB.out.size)⟩

/-! ### slices.Equal -/
end Go.Proofs.YtpinmiplefidpaaGreatDoor.LS

namespace Go.Proofs.YtpinmiplefidpaaGreatDoor.LS
open Go.RowKit

/-- A desk of the program's, in memory that was made since w0. -/
structure DSt (w0 w : World) (b k a : Nat) (D : Dk) : Prop where
  f : DkW w b k a D
  bel : Below w0.heap.size w0 w
  lo : ∀ g, DFoot b k a g → w0.heap.size ≤ g
section
variable {w0 w w' : World} {b k a : Nat} {D U : Dk}
theorem DSt.quiet (h : DSt w0 w b k a D) (q : Below w.heap.size w w') : DSt w0 w' b k a D := ⟨h.f.below q, bel2 h.bel q, h.lo⟩
theorem DSt.step (h : DSt w0 w b k a D) (q : Kept (DFoot b k a) w w') (hf : DkW w' b k a U) : DSt w0 w' b k a U :=
  ⟨hf, h.bel.trans (q.below h.bel.size h.lo), h.lo⟩
theorem DSt.new (h : DNew D w b w') : ∃ k a, DSt w w' b k a D := by
  obtain ⟨k, a, h1, h2, h3⟩ := h
  exact ⟨k, a, h1, h3, h2⟩
/-- What a desk leaves as it is: a block of another type. -/
theorem DkW.keep {A : Nat} {t : TypeId} {cs : Array Value} (h : DkW w b k a D) (hA : Bk w A t cs) (q : Kept (DFoot b k a) w w') (ht1 : t ≠ 163 := by decide) (ht2 : t ≠ 210 := by decide) (ht3 : t ≠ 161 := by decide) : Bk w' A t cs := hA.kept q (h.off hA ht1 ht2 ht3)
theorem DSt.box {A : Nat} {cs : Array Value} (h : DSt w0 w b k a D) (hA : Bk w A 25 cs) (q : Kept (DFoot b k a) w w') : Bk w' A 25 cs := h.f.keep hA q
/-- A slice that owns its row. -/
def RowO (w : World) (v : Value) (l : List Ro) : Prop := ∃ base, w.ownsRow base 25 3 v l.length (ocls l)
theorem RowO.rd {v : Value} {l : List Ro} (h : RowO w v l) : RdO w v l := by obtain ⟨_, h⟩ := h; exact RdO.of_own h
theorem RowO.below {v : Value} {l : List Ro} (h : RowO w v l) (q : Below w.heap.size w w') : RowO w' v l := by obtain ⟨_, h⟩ := h; exact ⟨_, own_below h q⟩
theorem own_kept {v : Value} {n s base : Nat} {e : TypeId} {xs : List Value} (h : w.ownsRow base e s v n xs) (f : DkW w b k a D) (q : Kept (DFoot b k a) w w') (ht1 : e ≠ 163 := by decide) (ht2 : e ≠ 210 := by decide) (ht3 : e ≠ 161 := by decide) : w'.ownsRow base e s v n xs := by
  refine own_same h fun g hg => ?_
  rcases h.2 with ⟨rfl, _⟩ | ⟨g', cap, cur, rfl, _, h2, _⟩
  · cases hg
  · obtain rfl : g' = g := by simpa [Value.ownBlock] using hg
    have hb : Bk w g' e cur := h2
    exact q.block g' hb.lt (f.off hb ht1 ht2 ht3)
theorem RowO.kept {v : Value} {l : List Ro} (h : RowO w v l) (f : DkW w b k a D) (q : Kept (DFoot b k a) w w') : RowO w' v l := by
  obtain ⟨base, h⟩ := h
  exact ⟨base, own_kept h f q⟩
/-- The calls, told of the state. -/
theorem grant_s (x now K I G E : Int) (h : DSt w0 w b k a D) (e1 : (D.gK x now : Int) = K) (e2 : (D.gI x now : Int) = I) (e3 : (D.gG x now : Int) = G) (e4 : D.gE x now = E) : Calls Tryz.prog 211 #[.pointer (some ⟨b, 0, none⟩), .int .i64 x, .int .i64 now] w fun e w' =>
    e = .returned (.tuple #[.agg #[.int .i64 K, .int .i64 I, .int .u32 G], .int .i64 E]) ∧ Hid (DSt w0 w' b k a (D.grant x now)) ∧ Hid (Kept (DFoot b k a) w w') := by
  refine (dgrant_ok b k a D x now w h.f).mono ?_
  rintro e w' ⟨rfl, h1, h2⟩
  exact ⟨by rw [e1, e2, e3, e4], h.step h2 h1, h2⟩
theorem renew_s (x y z t now E : Int) (h : DSt w0 w b k a D) (hr : RgO x y z) (e : D.rE x y z t now = E) : Calls Tryz.prog 79 #[.pointer (some ⟨b, 0, none⟩), .agg #[.int .i64 x, .int .i64 y, .int .u32 z], .int .i64 t, .int .i64 now] w fun e w' =>
    e = .returned (.int .i64 E) ∧ Hid (DSt w0 w' b k a (D.renew x y z t now)) ∧ Hid (Kept (DFoot b k a) w w') := by
  refine (drenew_ok b k a D x y z t now hr w h.f).mono ?_
  rintro e w' ⟨rfl, h1, h2⟩
  exact ⟨by rw [e], h.step h2 h1, h2⟩
theorem ret_s (x y z E : Int) (h : DSt w0 w b k a D) (hr : RgO x y z) (e : D.chk x y z = E) : Calls Tryz.prog 212 #[.pointer (some ⟨b, 0, none⟩), .agg #[.int .i64 x, .int .i64 y, .int .u32 z]] w fun e w' =>
    e = .returned (.int .i64 E) ∧ Hid (DSt w0 w' b k a (D.ret x y z)) ∧ Hid (Kept (DFoot b k a) w w') := by
  refine (dret_ok b k a D x y z hr w h.f).mono ?_
  rintro e w' ⟨rfl, h1, h2⟩
  exact ⟨by rw [e], h.step h2 h1, h2⟩
theorem until_s (x y z N E : Int) (h : DSt w0 w b k a D) (hr : RgO x y z) (e1 : (D.til x y z : Int) = N) (e2 : D.chk x y z = E) : Calls Tryz.prog 92 #[.pointer (some ⟨b, 0, none⟩), .agg #[.int .i64 x, .int .i64 y, .int .u32 z]] w fun e w' =>
    e = .returned (.tuple #[.int .i64 N, .int .i64 E]) ∧ Hid (DSt w0 w' b k a D) ∧ Hid (Below w.heap.size w w') := by
  refine (duntil_ok b k a D x y z hr w h.f).mono ?_
  rintro e w' ⟨rfl, h1⟩
  exact ⟨by rw [e1, e2], h.quiet h1, h1⟩
theorem all_s (l : List Ro) (h : DSt w0 w b k a D) (e : D.all = l) : Calls Tryz.prog 179 #[.pointer (some ⟨b, 0, none⟩)] w fun e w' =>
    ∃ p c, e = .returned (.slice p l.length c) ∧ Hid (RowO w' (.slice p l.length c) l) ∧ Hid (DSt w0 w' b k a D) ∧ Hid (Below w.heap.size w w') := by
  refine (dall_ok b k a D w h.f).mono ?_
  rintro e' w' ⟨p, c, rfl, h1, h2⟩
  subst e
  exact ⟨p, c, rfl, ⟨_, h1⟩, h.quiet h2, h2⟩
end
theorem ob_cells {w : World} {A : Nat} {x y z : Value} (h : Bk w A 25 #[x, y, z]) : w.cell? ⟨A, 0, none⟩ = some x ∧ w.cell? ⟨A, 1, none⟩ = some y ∧ w.cell? ⟨A, 2, none⟩ = some z ∧ A < w.heap.size := ⟨h.cell 0, h.cell 1, h.cell 2, h.lt⟩
theorem cells3 {w : World} {A : Nat} {x y z : Value} (h : Bk w A 25 #[x, y, z]) : w.cell? ⟨A, 0, none⟩ = some x ∧ w.cell? ⟨A, 1, none⟩ = some y ∧ w.cell? ⟨A, 2, none⟩ = some z := ⟨h.cell 0, h.cell 1, h.cell 2⟩
/-- A literal that holds l. -/
theorem RdO.lit {w : World} {g : Nat} {l : List Ro} {cs : Array Value} (h : Bk w g 25 cs) (e : cs.toList = ocls l) (hl : l.length ≤ 1000) : RdO w (.slice (some ⟨g, 0, none⟩) l.length l.length) l :=
  ⟨_, _, rfl, Nat.le_refl _, by omega, fun e => (by cases e), fun _ => ⟨g, 0, rfl, h.lt, fun j x hj => by rw [Nat.zero_add, h.cell, ← hj, ← e, Array.getElem?_toList]⟩⟩
end Go.Proofs.YtpinmiplefidpaaGreatDoor.LS
