/- The contracts of valid (both), is, said, slices.Index, slices.Clone, slices.Grow, slices.Concat. -/
import Derived.Test.YtpgokoeedmipeaaDoorAk
import Derived.OwnWalk
import Derived.IntWalk
import Derived.Deep.RegionWith
import Derived.Deep.RegionHeld3
import Derived.Lib.AppendZeros
namespace Go.Proofs.YtpgokoeedmipeaaDoor
open Go.RowKit

/-! ### valid -/
theorem valid_nil (w : World) : Calls Tryd.prog 15 #[.pointer none] w fun e w' => e = .returned (.bool false) ∧ w = w' := by
  go_enter Tryd.func15, Tryd.ntmps15
  go_wp2
  go_ret
  exact ⟨rfl, rfl⟩
theorem valid_zero (b : Nat) (w : World) (h : Bk w b 39 #[.bool false, .slice none 0 0]) : Calls Tryd.prog 15 #[.pointer (some ⟨b, 0, none⟩)] w fun e w' => e = .returned (.bool false) ∧ w = w' := by
  have hc : w.cell? ⟨b, 0, none⟩ = some (.bool false) := h.cell 0
  clear h
  go_enter Tryd.func15, Tryd.ntmps15
  go_wp2
  go_ret
  exact ⟨rfl, rfl⟩
theorem valid_no (v : Option Addr) (w : World) (h : Inv w v) : Calls Tryd.prog 15 #[.pointer v] w fun e w' => e = .returned (.bool false) ∧ w = w' := by
  rcases h with rfl | ⟨b, rfl, h⟩
  · exact valid_nil w
  · exact valid_zero b w h
theorem valid_yes (b : Nat) (w : World) (h : w.cell? ⟨b, 0, none⟩ = some (.bool true)) : Calls Tryd.prog 15 #[.pointer (some ⟨b, 0, none⟩)] w fun e w' => e = .returned (.bool true) ∧ w = w' := by
  go_enter Tryd.func15, Tryd.ntmps15
  go_wp2
  go_ret
  exact ⟨rfl, rfl⟩

/-! ### is -/
theorem is_yes (x : Int) (w : World) (h : 1 ≤ x ∧ x ≤ 3) : Calls Tryd.prog 18 #[.int .i64 x] w fun e w' => e = .returned (.bool true) ∧ w = w' := by
  obtain ⟨h1, h2⟩ := h
  go_enter Tryd.func18, Tryd.ntmps18
  go_wp2
  go_ret
  exact ⟨rfl, rfl⟩
theorem is_no (x : Int) (w : World) (h : ¬ (1 ≤ x ∧ x ≤ 3)) : Calls Tryd.prog 18 #[.int .i64 x] w fun e w' => e = .returned (.bool false) ∧ w = w' := by
  by_cases h1 : 1 ≤ x
  · have h2 : ¬ x ≤ 3 := by omega
    clear h
    go_enter Tryd.func18, Tryd.ntmps18
    go_wp2
    go_ret
    exact ⟨rfl, rfl⟩
  · clear h
    go_enter Tryd.func18, Tryd.ntmps18
    go_wp2
    go_ret
    exact ⟨rfl, rfl⟩

/-! ### the letters -/
/-- What the variable letters holds. -/
structure Env (w : World) : Prop where
  l0 : w.cell? ⟨0, 0, none⟩ = some (.int .u8 0)
  l1 : w.cell? ⟨0, 1, none⟩ = some (.int .u8 111)
  l2 : w.cell? ⟨0, 2, none⟩ = some (.int .u8 108)
  l3 : w.cell? ⟨0, 3, none⟩ = some (.int .u8 102)
theorem cell_stays {w w' : World} (hb : Below w.heap.size w w') {b o : Nat} {v : Value} (h : w.cell? ⟨b, o, none⟩ = some v) : w'.cell? ⟨b, o, none⟩ = some v :=
  (hb.cell (p := ⟨b, o, none⟩) (World.block_lt_of_cell? _ _ h)).trans h
theorem Env.below {w w' : World} (h : Env w) (hb : Below w.heap.size w w') : Env w' :=
  ⟨cell_stays hb h.l0, cell_stays hb h.l1, cell_stays hb h.l2, cell_stays hb h.l3⟩
theorem Env.same {w w' : World} (h : Env w) (e : w'.heap[(0 : Nat)]? = w.heap[(0 : Nat)]?) : Env w' :=
  ⟨(World.cell?_of_block (a := ⟨0, 0, none⟩) e).trans h.l0, (World.cell?_of_block (a := ⟨0, 1, none⟩) e).trans h.l1, (World.cell?_of_block (a := ⟨0, 2, none⟩) e).trans h.l2, (World.cell?_of_block (a := ⟨0, 3, none⟩) e).trans h.l3⟩
theorem Env.drewN {w : World} (h : Env w) (n : Nat) : Env (w.drewN n) := h.same rfl
theorem Env.lt {w : World} (h : Env w) : (0 : Nat) < w.heap.size := World.block_lt_of_cell? _ _ h.l0
/-- The place of a byte among the letters. -/
def place (b : Nat) : Int := if b = 0 then 0 else if b = 111 then 1 else if b = 108 then 2 else if b = 102 then 3 else -1
theorem place_good {b : Nat} (h : num b ≠ 0) : place b = (num b : Int) ∧ (1 ≤ place b ∧ place b ≤ 3) := by
  unfold num at h
  unfold place num
  split at h
  · subst b; decide
  · split at h
    · subst b; decide
    · split at h
      · subst b; decide
      · exact absurd rfl h
theorem place_bad {b : Nat} (h : num b = 0) : ¬ (1 ≤ place b ∧ place b ≤ 3) := by
  unfold num at h
  unfold place
  split at h
  · cases h
  · rename_i h1
    split at h
    · cases h
    · rename_i h2
      split at h
      · cases h
      · rename_i h3
        rw [if_neg h1, if_neg h2, if_neg h3]
        split <;> omega

set_option maxRecDepth 100000 in
set_option maxHeartbeats 2000000 in
theorem index_ok (b : Nat) (w : World) (he : Env w) : Calls Tryd.prog 22 #[.slice (some ⟨0, 0, none⟩) 4 4, .int .u8 (b : Int)] w fun e w' => e = .returned (.int .i64 (place b)) ∧ w = w' := by
  obtain ⟨h0, h1, h2, h3⟩ := he
  by_cases b0 : b = 0
  · subst b0
    go_enter Tryd.func22, Tryd.ntmps22
    go_wp2
    refine wp_loop_rounds 5 ?_
    rw [rounds_succ]; go_wp2
    go_ret
    exact ⟨rfl, rfl⟩
  have n0 : ((b : Int) == 0) = false := by simpa using b0
  by_cases b1 : b = 111
  · subst b1
    go_enter Tryd.func22, Tryd.ntmps22
    go_wp2
    refine wp_loop_rounds 5 ?_
    rw [rounds_succ]; go_wp2
    rw [rounds_succ]; go_wp2
    go_ret
    exact ⟨rfl, rfl⟩
  have n1 : ((b : Int) == 111) = false := by simp; omega
  by_cases b2 : b = 108
  · subst b2
    go_enter Tryd.func22, Tryd.ntmps22
    go_wp2
    refine wp_loop_rounds 5 ?_
    rw [rounds_succ]; go_wp2
    rw [rounds_succ]; go_wp2
    rw [rounds_succ]; go_wp2
    go_ret
    exact ⟨rfl, rfl⟩
  have n2 : ((b : Int) == 108) = false := by simp; omega
  by_cases b3 : b = 102
  · subst b3
    go_enter Tryd.func22, Tryd.ntmps22
    go_wp2
    refine wp_loop_rounds 5 ?_
    rw [rounds_succ]; go_wp2
    rw [rounds_succ]; go_wp2
    rw [rounds_succ]; go_wp2
    rw [rounds_succ]; go_wp2
    go_ret
    exact ⟨rfl, rfl⟩
  have n3 : ((b : Int) == 102) = false := by simp; omega
  have hp : place b = -1 := by unfold place; rw [if_neg b0, if_neg b1, if_neg b2, if_neg b3]
  rw [hp]
  clear hp b0 b1 b2 b3
  go_enter Tryd.func22, Tryd.ntmps22
  go_wp2
  refine wp_loop_rounds 5 ?_
  rw [rounds_succ]; go_wp2
  rw [rounds_succ]; go_wp2
  rw [rounds_succ]; go_wp2
  rw [rounds_succ]; go_wp2
  rw [rounds_succ]; go_wp2
  go_ret
  exact ⟨rfl, rfl⟩

/-! ### Clone, Grow, Concat -/
/-- A new slice that holds l. -/
def NewV (l : List Int) (w : World) (e : Ending) (w' : World) : Prop :=
  ∃ v, e = .returned v ∧ w'.ownsRow w.heap.size 3 1 v l.length (ints l) ∧ Below w.heap.size w w'
/-- A list and an error, as Parse gives them. -/
def ParseV (bs : List UInt8) (w : World) (e : Ending) (w' : World) : Prop :=
  ∃ v, e = .returned (.tuple #[v, .int .i64 (pE bs)]) ∧ Sl w' v (pL bs) ∧ Below w.heap.size w w'
theorem own_empty (w : World) : (w.alloc (.cells #[] 3)).ownsRow w.heap.size 3 1 (.slice (some ⟨w.heap.size, 0, none⟩) 0 0) 0 [] := World.ownsRow_lit w #[] 0 (Nat.le_refl _) (by decide) rfl
theorem own_lt {w : World} {base n : Nat} {v : Value} {e : TypeId} {xs : List Value} (h : w.ownsRow base e 1 v n xs) : ∀ k, v.ownBlock = some k → base ≤ k := fun k hk => (h.lt k hk).1

set_option maxHeartbeats 1000000 in
theorem clone_ok (a : Option Addr) (n c : Nat) (l : List Int) (w : World) (h : Sl w (.slice a n c) l) (hl : l.length ≤ 100000) :
    Calls Tryd.prog 17 #[.slice a n c] w (NewV l w) := by
  obtain ⟨hn, h1, h2, h3⟩ := h.cap
  subst hn
  cases a with
  | none =>
    have hc := h3 rfl
    subst hc
    have : l = [] := List.eq_nil_of_length_eq_zero (by omega)
    subst this
    have heq := Lib.run_eql_slice_nil (P := Tryd.prog) w 29 3 none 0 0 0 0 Tryd.underlying29
    go_enter Tryd.func17, Tryd.ntmps17
    go_wp2
    go_ret
    exact ⟨_, rfl, World.ownsRow_nil _ _ _ _, Below.refl _ _⟩
  | some b =>
    have heq := Lib.run_eql_slice_nil (P := Tryd.prog) w 29 3 (some b) l.length c 0 0 Tryd.underlying29
    have H := Lib.hid (h.below ((Below.refl _ w).alloc (Nat.le_refl _) (.cells #[] 3)))
    have HO := Lib.hid (own_empty w)
    clear h h3
    go_enter Tryd.func17, Tryd.ntmps17
    go_wp2_with (at_builtin; refine wpList_append_sl rfl _ _ rfl w.heap.size _ 0 [] rfl HO.out _ l rfl H.out (by omega) (by simp) ?_)
    intro v' w1 hown hgrow
    have HV : Hid (NewV l w (.returned v') w1) := ⟨v', rfl, by simpa using hown, ((Below.refl _ w).alloc (Nat.le_refl _) _).grown hgrow (by simp) (fun k hk => own_lt HO.out k hk)⟩
    clear hown hgrow
    go_wp2
    go_ret
    exact HV.out

theorem grow_zero (w : World) : Calls Tryd.prog 20 #[.slice none 0 0, .int .i64 0] w fun e w' => e = .returned (.slice none 0 0) ∧ w = w' := by
  go_enter Tryd.func20, Tryd.ntmps20
  go_wp2
  go_ret
  exact ⟨rfl, rfl⟩
set_option maxHeartbeats 1000000 in
theorem grow_pos (n : Nat) (w : World) (h0 : 0 < n) (h1 : n ≤ 100000) : Calls Tryd.prog 20 #[.slice none 0 0, .int .i64 n] w (NewV [] w) := by
  obtain ⟨i0, hi, hz0, hz1, hz2⟩ := info_parts info_int
  have hrz := fun ty => Lib.run_append_nil_zeros (P := Tryd.prog) w 29 3 ty 3 i0 (.int .i64 0) .i64 .i64 Tryd.underlying29 Tryd.underlying3 hi hz0 n h0 (by rw [hz1]; decide) (by omega) (by rw [hz2]; omega)
  have hge : n ≤ grownCap w n 0 3 := grownCap_ge w _ _ _
  have hle : grownCap w n 0 3 ≤ maxLen := grownCap_le_maxLen w n 0 3 (by unfold maxLen; omega)
  generalize grownCap w n 0 3 = G at *
  have HG := Lib.hid (And.intro hge hle)
  have hG63 : G ≤ 9223372036854775807 := by unfold maxLen at hle; omega
  obtain ⟨W, hW⟩ : ∃ W, w.drew.alloc (.cells (Builtin.zeroCells (Value.int .i64 0).cells n ++ Builtin.zeroCells (Value.int .i64 0).cells (G - n)) 3) = W := ⟨_, rfl⟩
  rw [hW] at hrz
  have HW := Lib.hid hW
  clear hW hge hle
  go_enter Tryd.func20, Tryd.ntmps20
  go_wp2_with (at_builtin; refine Lib.wpList_append_run _ rfl _ _ _ _ rfl _ _ rfl rfl _ _ (hrz _) ?_)
  go_ret
  obtain rfl := HW.out
  have hb := Bk.new w.drew 3 (Builtin.zeroCells (Value.int .i64 0).cells n ++ Builtin.zeroCells (Value.int .i64 0).cells (G - n))
  have hsz : (Builtin.zeroCells (Value.int .i64 0).cells n ++ Builtin.zeroCells (Value.int .i64 0).cells (G - n)).size = G := by
    have := HG.out.1
    simp [Builtin.zeroCells, Value.cells]
    omega
  exact ⟨_, rfl, ⟨rfl, .inr ⟨w.heap.size, G, _, rfl, Nat.le_refl _, hb, Nat.zero_le _, HG.out.2, by rw [hsz]; omega, rfl⟩⟩, (bel_drew (Below.refl _ w)).alloc (Nat.le_refl _) _⟩
theorem grow_ok (n : Nat) (w : World) (h1 : n ≤ 100000) : Calls Tryd.prog 20 #[.slice none 0 0, .int .i64 n] w (NewV [] w) := by
  by_cases h0 : n = 0
  · subst h0
    refine (grow_zero w).mono ?_
    rintro e w' ⟨rfl, rfl⟩
    exact ⟨_, rfl, World.ownsRow_nil _ _ _ _, Below.refl _ _⟩
  · exact grow_pos n w (by omega) h1

set_option maxRecDepth 100000 in
set_option maxHeartbeats 4000000 in
theorem concat_ok (g : Nat) (a a' : Option Addr) (n n' c c' : Nat) (l m : List Int) (w : World) (hc0 : w.cell? ⟨g, 0, none⟩ = some (.slice a n c)) (hc1 : w.cell? ⟨g, 1, none⟩ = some (.slice a' n' c')) (h : Sl w (.slice a n c) l) (h' : Sl w (.slice a' n' c') m) (hl : l.length ≤ 10000) (hm : m.length ≤ 10000) :
    Calls Tryd.prog 16 #[.slice (some ⟨g, 0, none⟩) 2 2] w (NewV (l ++ m) w) := by
  obtain ⟨rfl, _⟩ := h.cap
  obtain ⟨rfl, _⟩ := h'.cap
  have H := Lib.hid h
  have H' := Lib.hid h'
  clear h h'
  go_enter Tryd.func16, Tryd.ntmps16
  go_wp2
  refine wp_loop_rounds 3 ?_
  rw [rounds_succ]; go_wp2
  rw [rounds_succ]; go_wp2
  rw [rounds_succ]
  go_wp2_with fail
  have hsum : ((l.length : Int) + (m.length : Int)) = ((l.length + m.length : Nat) : Int) := by omega
  rw [hsum]
  refine (grow_ok (l.length + m.length) _ (by omega)).mono ?_
  rintro e w1 ⟨v, rfl, hown, hb⟩
  have hc0' := cell_stays hb hc0
  have hc1' := cell_stays hb hc1
  have HC := Lib.hid hc1
  have H1 := Lib.hid (H.out.below hb)
  have H1' := Lib.hid (H'.out.below hb)
  have HO := Lib.hid hown
  have HB := Lib.hid hb
  clear hown hb hc0 hc1 hsum
  go_wp2
  refine wp_loop_rounds 3 ?_
  rw [rounds_succ]
  go_wp2_with (at_builtin; refine wpList_append_sl rfl _ _ rfl w.heap.size _ 0 [] rfl HO.out _ l rfl H1.out (by omega) HB.out.size ?_)
  intro v2 w2 hown2 hgrow2
  have hb2 := HB.out.grown hgrow2 HB.out.size (fun k hk => own_lt HO.out k hk)
  have hc2 := cell_stays hb2 HC.out
  have H2' := Lib.hid (H'.out.below hb2)
  have HO2 := Lib.hid hown2
  have HB2 := Lib.hid hb2
  clear hown2 hgrow2 hb2 hc0' hc1'
  go_wp2
  rw [rounds_succ]
  go_wp2_with (at_builtin; refine wpList_append_sl rfl _ _ rfl w.heap.size _ _ _ rfl HO2.out _ m rfl H2'.out (by omega) HB2.out.size ?_)
  intro v3 w3 hown3 hgrow3
  have HV : Hid (NewV (l ++ m) w (.returned v3) w3) := ⟨v3, rfl, by simpa [ints] using hown3, HB2.out.grown hgrow3 HB2.out.size (fun k hk => own_lt HO2.out k hk)⟩
  clear hown3 hgrow3 hc2
  go_wp2
  rw [rounds_succ]
  go_wp2
  go_ret
  exact HV.out
end Go.Proofs.YtpgokoeedmipeaaDoor
