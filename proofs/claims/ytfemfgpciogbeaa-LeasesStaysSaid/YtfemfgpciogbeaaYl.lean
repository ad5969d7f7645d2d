/- The library's contract of slices.Clone, laid at this translation by the kit's own command; a copy of a slice of times. -/
import Derived.Shelf.SlicesE.Clone
import Derived.Test.YtfemfgpciogbeaaYj
namespace Go.Proofs
open Go.Shelf
def Try.laysClone_ren : Go.Shelf.Ren := ⟨fun | 41 => 33 | n => n, fun | 22 => 60 | 23 => 2 | 4 => 4 | n => n, fun | n => n⟩
theorem Try.laysClone : Go.Proofs.SlLaysE0.n41 Try.prog Try.laysClone_ren := {
  mixed := by kernel_rfl
  f41 := ⟨Try.f33.name, by decide, Try.func33.trans (congrArg some (by kernel_rfl))⟩
  t4 := Try.underlying4
  a4 := Try.isAgg4
  z4 := Try.sizeOf4
  v4 := Try.zeroValue4
  t22 := Try.underlying60
  a22 := Try.isAgg60
  z22 := Try.sizeOf60
  v22 := Try.zeroValue60 }
end Go.Proofs
namespace Go.Proofs.Ytfemfgpciogbeaa
open Go.RowKit

set_option maxRecDepth 100000 in
/-- A copy of a slice of times. -/
theorem lclone_ok {base n c : Nat} {p : Option Addr} {U : List Nat} (w : World) (hn : U.length = n) (hl : n ≤ 1000) (h : w.ownsRow base 2 1 (.slice p n c) n (us U)) : Calls Try.prog 33 #[.slice p n c] w fun e w' => ∃ q d, e = .returned (.slice q n d) ∧ Hid (w'.ownsRow w.heap.size 2 1 (.slice q n d) n (us U)) ∧ Hid (Below w.heap.size w w') := by
  obtain ⟨i0, hi, hz0, hz1, hz2⟩ := info_parts info_l64
  rcases h.2 with ⟨e, h0⟩ | ⟨g, cap, cur, e, _, _, hc1, hc2, _⟩
  · injection e with e1 e2 e3
    subst e1 e2 e3
    have hx : U = [] := List.eq_nil_of_length_eq_zero hn
    subst hx
    refine (AnyE.slices_Clone_nil Try.laysClone 0 0 w).mono ?_
    rintro e w' ⟨rfl, rfl⟩
    exact ⟨none, 0, rfl, World.ownsRow_nil _ _ _ _, Below.refl _ _⟩
  · injection e with e1 e2 e3
    subst e1 e3
    refine (AnyE.slices_Clone Try.laysClone i0 (.int .i64 0) 1 8 hi hz0 hz1 hz2 rfl (by decide) (fun _ => by kernel_rfl) g 0 n c (us U) w (by rw [us_len, hn, Nat.mul_one]) (by unfold maxLen; omega) (by omega) (fun j u hj => by
      obtain ⟨y, hy⟩ : ∃ y, U[j]? = some y := by
        cases hU : U[j]? with
        | none => simp [us, hU] at hj
        | some y => exact ⟨y, rfl⟩
      rw [us_at hy] at hj
      injection hj with hj
      subst hj
      obtain ⟨g', e, _, h3, _⟩ := row_atu h hn hy
      injection e with e
      injection e with e
      subst e
      rw [Nat.zero_add]; exact h3) (us_one U)).mono ?_
    rintro e w' ⟨v', rfl, hr, _, hb⟩
    obtain ⟨q, d, rfl⟩ := own_form hr
    exact ⟨q, d, rfl, hr, hb⟩

/-- Of the times, a move turns at most one. -/
theorem OneU.at {U V : List Nat} (h : OneU U V) : ∃ K : Nat, ∀ k v : Nat, V[k]? = some v → k ≠ K → U[k]? = some v := by
  rcases h with rfl | ⟨x, rfl⟩ | ⟨q, x, hq, rfl⟩
  · exact ⟨0, fun _ _ h _ => h⟩
  · refine ⟨U.length, fun k v h hk => ?_⟩
    rw [List.getElem?_append] at h
    split at h
    · exact h
    · exfalso
      have : k - U.length = 0 ∨ 0 < k - U.length := by omega
      rcases this with e | e
      · omega
      · rw [List.getElem?_eq_none (by simp; omega)] at h
        cases h
  · refine ⟨q, fun k v h hk => ?_⟩
    rw [List.getElem?_set_ne (fun e => hk e.symm)] at h
    exact h
/-- Another block's slice stays. -/
theorem own_step {w w' : World} {X b k a base n c s : Nat} {pl pu p : Option Addr} {e : TypeId} {xs : List Value} (h : w.ownsRow base e s (.slice p n c) n xs) (q : Kept (LFt X b k a pl pu) w w') (hf : ∀ g, LFt X b k a pl pu g → g < base) : w'.ownsRow base e s (.slice p n c) n xs :=
  own_same h fun g hg => q.block g (h.lt g hg).2 fun hh => by
    have h1 := hf g hh
    have h2 := (h.lt g hg).1
    omega
end Go.Proofs.Ytfemfgpciogbeaa
