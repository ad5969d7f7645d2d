/- The contracts of slots' Check, Give, Gen, New, Copy. -/
import Derived.Test.YtfnhkapbfgofkaaSa
namespace Go.Proofs.Ytfnhkapbfgofkaa
open Go.RowKit

/-! ### Check, Give -/
theorem check_core (v : Value) (i g E : Int) (p : Option Addr) (w : World) (hh : ∀ W : World, Below w.heap.size w W → Calls Try.prog 69 #[v, .agg #[.int .i64 i, .int .u32 g]] W fun e w' => e = .returned (.tuple #[.pointer p, .int .i64 E]) ∧ Below W.heap.size W w') :
    Calls Try.prog 68 #[v, .agg #[.int .i64 i, .int .u32 g]] w fun e w' => e = .returned (.int .i64 E) ∧ Below w.heap.size w w' := by
  have HH := Lib.hid hh
  clear hh
  go_enter Try.func68, Try.ntmps68
  go_wp2_with fail
  refine (HH.out _ ((Below.refl _ w).alloc (Nat.le_refl _) _)).mono ?_
  rintro e w1 ⟨rfl, hb⟩
  have HB := Lib.hid hb
  clear hb
  go_wp2
  go_ret
  exact ⟨rfl, bel2 ((Below.refl _ w).alloc (Nat.le_refl _) _) HB.out⟩
theorem give_core (v : Value) (i g E : Int) (p : Option Addr) (w : World) (hE : (E != 0) = true) (hh : ∀ W : World, Below w.heap.size w W → Calls Try.prog 69 #[v, .agg #[.int .i64 i, .int .u32 g]] W fun e w' => e = .returned (.tuple #[.pointer p, .int .i64 E]) ∧ Below W.heap.size W w') :
    Calls Try.prog 43 #[v, .agg #[.int .i64 i, .int .u32 g]] w fun e w' => e = .returned (.int .i64 E) ∧ Below w.heap.size w w' := by
  have HH := Lib.hid hh
  clear hh
  go_enter Try.func43, Try.ntmps43
  go_wp2_with fail
  refine (HH.out _ ((Below.refl _ w).alloc (Nat.le_refl _) _)).mono ?_
  rintro e w1 ⟨rfl, hb⟩
  have HB := Lib.hid hb
  clear hb
  go_wp2
  go_ret
  exact ⟨rfl, bel2 ((Below.refl _ w).alloc (Nat.le_refl _) _) HB.out⟩
theorem check_inv (v : Option Addr) (i g : Int) (w : World) (h : Inv w v) : Calls Try.prog 68 #[.pointer v, .agg #[.int .i64 i, .int .u32 g]] w fun e w' => e = .returned (.int .i64 1) ∧ Below w.heap.size w w' :=
  check_core _ i g 1 none w fun W hW => held_inv v i g W (h.below hW)
theorem give_inv (v : Option Addr) (i g : Int) (w : World) (h : Inv w v) : Calls Try.prog 43 #[.pointer v, .agg #[.int .i64 i, .int .u32 g]] w fun e w' => e = .returned (.int .i64 1) ∧ Below w.heap.size w w' :=
  give_core _ i g 1 none w (by decide) fun W hW => held_inv v i g W (h.below hW)
theorem chk_cases (T : Tb) (i g : Int) : ((i < 0 ∨ (T.n : Int) ≤ i) ∧ T.chk i g = 3) ∨ (∃ k : Nat, i = k ∧ k < T.n ∧ (T.s k = 1 → (T.g k : Int) ≠ g) ∧ T.chk i g = 7) ∨ (∃ k : Nat, i = k ∧ k < T.n ∧ T.s k = 1 ∧ (T.g k : Int) = g ∧ T.chk i g = 0) := by
  unfold Tb.chk
  by_cases h : i < 0 ∨ (T.n : Int) ≤ i
  · exact .inl ⟨h, if_pos h⟩
  · obtain ⟨k, rfl⟩ : ∃ k : Nat, i = k := ⟨i.toNat, by omega⟩
    rw [if_neg h, Int.toNat_natCast]
    by_cases h2 : T.s k = 1 ∧ (T.g k : Int) = g
    · exact .inr (.inr ⟨k, rfl, by omega, h2.1, h2.2, if_pos h2⟩)
    · exact .inr (.inl ⟨k, rfl, by omega, fun e e2 => h2 ⟨e, e2⟩, if_neg h2⟩)
theorem check_any (b : Nat) (T : Tb) (i g : Int) (w : World) (h : TabW w b T) : Calls Try.prog 68 #[.pointer (some ⟨b, 0, none⟩), .agg #[.int .i64 i, .int .u32 g]] w fun e w' => e = .returned (.int .i64 (T.chk i g)) ∧ Below w.heap.size w w' := by
  rcases chk_cases T i g with ⟨h1, h2⟩ | ⟨k, rfl, h1, h3, h2⟩ | ⟨k, rfl, h1, h3, h4, h2⟩
  · rw [h2]; exact check_core _ i g 3 none w fun W hW => held_out b T i g W (h.below hW) h1
  · rw [h2]; exact check_core _ k g 7 none w fun W hW => held_stale b T k g W (h.below hW) h1 h3
  · rw [h2]; exact check_core _ k g 0 _ w fun W hW => held_ok b T k g W (h.below hW) h1 h3 h4
def GiveV (b : Nat) (_T U : Tb) (E : Int) (w : World) (e : Ending) (w' : World) : Prop := e = .returned (.int .i64 E) ∧ TabW w' b U ∧ Kept (· = b) w w'
theorem give_ok (b : Nat) (T : Tb) (k : Nat) (g : Int) (w : World) (h : TabW w b T) (hk : k < T.n) (hs : T.s k = 1) (hg : (T.g k : Int) = g) : Calls Try.prog 43 #[.pointer (some ⟨b, 0, none⟩), .agg #[.int .i64 k, .int .u32 g]] w (GiveV b T (T.gave k) 0 w) := by
  have HS := Lib.hid hs
  have HG := Lib.hid hg
  have H := Lib.hid h
  clear h hs hg
  go_enter Try.func43, Try.ntmps43
  go_wp2_with fail
  refine (held_ok b T k g _ (H.out.below ((Below.refl _ w).alloc (Nat.le_refl _) _)) hk HS.out HG.out).mono ?_
  rintro e w1 ⟨rfl, hb⟩
  have HB := Lib.hid (bel2 ((Below.refl _ w).alloc (Nat.le_refl _) _) hb)
  clear hb
  go_wp2_with fail
  refine (release_ok b T k _ (H.out.below HB.out) hk).mono ?_
  rintro e w2 ⟨rfl, hT, hk2⟩
  have HT := Lib.hid hT
  have HK := Lib.hid hk2
  clear hT hk2
  go_wp2
  go_ret
  exact ⟨rfl, HT.out, (Kept.of_below HB.out).trans HK.out⟩
theorem give_any (b : Nat) (T : Tb) (i g : Int) (w : World) (h : TabW w b T) : Calls Try.prog 43 #[.pointer (some ⟨b, 0, none⟩), .agg #[.int .i64 i, .int .u32 g]] w (GiveV b T (T.given i g) (T.chk i g) w) := by
  unfold Tb.given
  rcases chk_cases T i g with ⟨h1, h2⟩ | ⟨k, rfl, h1, h3, h2⟩ | ⟨k, rfl, h1, h3, h4, h2⟩
  · rw [h2]; exact (give_core _ i g 3 none w (by decide) fun W hW => held_out b T i g W (h.below hW) h1).mono fun e w' ⟨k1, k2⟩ => ⟨k1, h.below k2, Kept.of_below k2⟩
  · rw [h2]; exact (give_core _ k g 7 none w (by decide) fun W hW => held_stale b T k g W (h.below hW) h1 h3).mono fun e w' ⟨k1, k2⟩ => ⟨k1, h.below k2, Kept.of_below k2⟩
  · rw [h2]; exact give_ok b T k g w h h1 h3 h4

/-! ### Gen -/
/-- What Gen answers. -/
def Tb.gen (T : Tb) (i : Int) : Int := if i < 0 ∨ (T.n : Int) ≤ i then 0 else T.g i.toNat
def Tb.genE (T : Tb) (i : Int) : Int := if i < 0 ∨ (T.n : Int) ≤ i then 3 else 0
end Go.Proofs.Ytfnhkapbfgofkaa
