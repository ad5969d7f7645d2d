/- The walk of the statement BitsEnds: it returns true. -/
import Derived.Test.YtaenemdclmnnaaaDoorBw
namespace Go.Proofs.YtaenemdclmnnaaaDoor
open Go.RowKit

/-- The numbers from 4096 - k on. -/
def top (k : Nat) : Nat → Bool := fun q => decide (4096 - k ≤ q) && decide (q < 4096)
theorem top_zero : top 0 = fun _ => false := by
  funext q; unfold top
  by_cases h : 4096 ≤ q
  · have : ¬ q < 4096 := by omega
    simp [this]
  · simp [h]
theorem top_succ {k : Nat} (hk : k < 4096) : upd (top k) (4095 - k) true = top (k + 1) := by
  funext q
  unfold upd top
  by_cases h : q = 4095 - k
  · rw [if_pos h]
    have h1 : 4096 - (k + 1) ≤ q := by omega
    have h2 : q < 4096 := by omega
    rw [decide_eq_true h1, decide_eq_true h2]; rfl
  · rw [if_neg h]
    congr 1
    rw [decide_eq_decide]; omega
theorem top_out (k : Nat) : ∀ q, 4096 ≤ q → top k q = false := fun q hq => by
  unfold top
  have : ¬ q < 4096 := by omega
  simp [this]
theorem top_lst {k : Nat} (hk : k ≤ 4096) : lst (top k) 4096 = List.range' (4096 - k) k := by
  unfold lst
  have e : List.range 4096 = List.range (4096 - k) ++ List.range' (4096 - k) k := by
    rw [List.range_eq_range', List.range_eq_range']
    have h := List.range'_append_1 (s := 0) (m := 4096 - k) (n := k)
    rw [Nat.zero_add] at h
    rw [h]; congr 1; omega
  rw [e, List.filter_append]
  have h1 : (List.range (4096 - k)).filter (top k) = [] := by
    rw [List.filter_eq_nil_iff]
    intro a ha
    have := List.mem_range.1 ha
    have h2 : ¬ 4096 - k ≤ a := by omega
    simp [top, h2]
  have h3 : (List.range' (4096 - k) k).filter (top k) = List.range' (4096 - k) k := by
    rw [List.filter_eq_self]
    intro a ha
    have := List.mem_range'_1.1 ha
    have h4 : 4096 - k ≤ a := by omega
    have h5 : a < 4096 := by omega
    simp [top, h4, h5]
  rw [h1, h3, List.nil_append]

theorem top_add (b g k : Nat) (hk : k < 4096) (W : World) (hs : SetW W b g 4096 (top k)) : Calls Tryd.prog 13 #[.pointer (some ⟨b, 0, none⟩), .int .i64 (4095 - (k : Int))] W fun e w' => e = .returned (.int .i64 0) ∧ SetW w' b g 4096 (top (k + 1)) ∧ Kept (· = g) W w' := by
  have h := add_in b g 4096 (top k) (4095 - k) W hs (by omega)
  rw [top_succ hk] at h
  have e : ((4095 - k : Nat) : Int) = 4095 - (k : Int) := by omega
  rwa [e] at h
theorem top_count (b g k : Nat) (hk : k < 4096) (W : World) (hs : SetW W b g 4096 (top (k + 1))) : Calls Tryd.prog 28 #[.pointer (some ⟨b, 0, none⟩)] W fun e w' => e = .returned (.int .i64 ((k : Int) + 1)) ∧ W = w' := by
  have h := count_ok b g 4096 (top (k + 1)) W hs
  rw [top_lst (by omega), List.length_range'] at h
  have e : ((k + 1 : Nat) : Int) = (k : Int) + 1 := by omega
  rwa [e] at h
theorem top_next (b g k : Nat) (hk : k < 4096) (W : World) (hs : SetW W b g 4096 (top (k + 1))) (hT : Tab W) : Calls Tryd.prog 26 #[.pointer (some ⟨b, 0, none⟩), .int .i64 0] W fun e w' => e = .returned (.tuple #[.int .i64 (4095 - (k : Int)), .bool true]) ∧ Below W.heap.size W w' := by
  have hl : from_ (top (k + 1)) 4096 0 = (4095 - k) :: List.range' (4095 - k + 1) k := by
    rw [from_zero, top_lst (by omega)]
    have e : 4096 - (k + 1) = 4095 - k := by omega
    rw [e, List.range'_succ]
  have h := next_s b g 4096 (top (k + 1)) 0 _ _ (by decide) W hs hT hl
  have e : ((4095 - k : Nat) : Int) = 4095 - (k : Int) := by omega
  rwa [e] at h
theorem top_all (b g : Nat) (W : World) (hs : SetW W b g 4096 (top 4096)) (hT : Tab W) : Calls Tryd.prog 29 #[.pointer (some ⟨b, 0, none⟩)] W fun e w' => (∃ a c, e = .returned (.slice a 4096 c)) ∧ Below W.heap.size W w' := by
  refine (all_s b g 4096 (top 4096) _ W hs hT (top_lst (Nat.le_refl _))).mono ?_
  rintro e w' ⟨v, rfl, ⟨a, c, rfl, _⟩, _, h⟩
  exact ⟨⟨a, c, by rw [List.length_range']⟩, h⟩

def endI (k : Nat) : Int := [0, 4097, -1, 4611686018427387904].getD k 0
structure ESt (w0 w : World) (b g k : Nat) : Prop where
  s : SetW w b g 4096 (top k)
  t : Tab w
  bel : Below w0.heap.size w0 w
  x1 : w0.heap.size ≤ g
  x2 : (0 : Nat) < w0.heap.size
theorem ESt.quiet {w0 w w' : World} {b g k : Nat} (h : ESt w0 w b g k) (hb : Below w.heap.size w w') : ESt w0 w' b g k := ⟨h.s.below hb, h.t.below hb, h.bel.trans (hb.mono h.bel.size), h.x1, h.x2⟩
theorem ESt.ks {w0 w w' : World} {b g k k' : Nat} (h : ESt w0 w b g k) (hk : Kept (· = g) w w') (hs : SetW w' b g 4096 (top k')) : ESt w0 w' b g k' :=
  ⟨hs, h.t.same (hk.block _ h.t.lt (by have := h.x1; have := h.x2; omega)), h.bel.trans (kept_below hk h.bel.size h.x1), h.x1, h.x2⟩

set_option maxRecDepth 100000 in
set_option maxHeartbeats 4000000 in
theorem ends_walk (w : World) (hT : Tab w) :
    Calls Tryd.prog 9 #[] w fun e w' => e = .returned (.bool true) ∧ Below w.heap.size w w' := by
  have HT := Lib.hid hT
  clear hT
  go_enter Tryd.func9, Tryd.ntmps9
  go_wp2
  obtain ⟨w1, hw1⟩ : ∃ w1, w.alloc (.cells #[.int .i64 0, .int .i64 4097, .int .i64 (-1), .int .i64 4611686018427387904] 3) = w1 := ⟨_, rfl⟩
  have HB1 : Hid (Below w.heap.size w w1) := by rw [← hw1]; exact (Below.refl _ w).alloc (Nat.le_refl _) _
  have HK1 : Hid (Bk w1 w.heap.size 3 #[.int .i64 0, .int .i64 4097, .int .i64 (-1), .int .i64 4611686018427387904]) := by rw [← hw1]; exact Bk.new _ _ _
  rw [hw1]
  clear hw1
  go_loop [12] (fun i => ∃ k : Nat, k ≤ 4 ∧ i = .int .i64 k) (fun i => 4 - (intOf i).toNat)
  case atStart => exact ⟨0, by decide, rfl⟩
  case round =>
    obtain ⟨k, hk, rfl⟩ := hrel
    by_cases hlt : k < 4
    · have hc : w1.cell? ⟨w.heap.size, k, none⟩ = some (.int .i64 (endI k)) ∧ (endI k < 1 ∨ 4096 < endI k) := by
        rw [HK1.out.cell]
        match k, hlt with
        | 0, _ => exact ⟨rfl, by decide⟩
        | 1, _ => exact ⟨rfl, by decide⟩
        | 2, _ => exact ⟨rfl, by decide⟩
        | 3, _ => exact ⟨rfl, by decide⟩
      obtain ⟨hc, hx⟩ := hc
      generalize endI k = x at *
      have HX := Lib.hid hx
      clear hx
      go_wp2_with fail
      refine (new_no x _ HX.out).mono ?_
      rintro e w' ⟨rfl, rfl⟩
      go_wp2
      go_round
      case rel => exact ⟨k + 1, by omega, by go_num⟩
      case measure => simp [intOf]; omega
    · obtain rfl : k = 4 := by omega
      go_wp2_with fail
      refine (new_ok 4096 _ (by decide) (by decide)).mono ?_
      rintro e w2 ⟨b, g, p1, p2, rfl, hs2, hb2⟩
      have ST : Hid (ESt w w2 b g 0) := by
        have := HB1.out.size
        exact ⟨by rw [top_zero]; exact hs2, (HT.out.below HB1.out).below hb2, bel2 HB1.out hb2, by omega, HT.out.lt⟩
      clear hs2 hb2 p1 p2 HB1 HK1
      go_wp2
      go_loopw [34] (fun i wr => ∃ k : Nat, k ≤ 4096 ∧ i = .int .i64 k ∧ Hid (ESt w wr b g k)) (fun i _ => 4096 - (intOf i).toNat)
      case atStart => exact ⟨0, by decide, rfl, ST.out⟩
      case round =>
        obtain ⟨k, hk, rfl, HS⟩ := hrel
        by_cases hlt2 : k < 4096
        · go_wp2_with fail
          refine (top_add b g k hlt2 _ HS.out.s).mono ?_
          rintro e w3 ⟨rfl, hs3, hk3⟩
          have HS3 := Lib.hid (HS.out.ks hk3 hs3)
          clear hs3 hk3 HS
          go_wp2_with fail
          refine (top_count b g k hlt2 _ HS3.out.s).mono ?_
          rintro e w' ⟨rfl, rfl⟩
          go_wp2_with fail
          refine (top_next b g k hlt2 _ HS3.out.s HS3.out.t).mono ?_
          rintro e w4 ⟨rfl, hb4⟩
          have HS4 := Lib.hid (HS3.out.quiet hb4)
          clear hb4 HS3
          go_wp2
          go_roundw
          case rel => exact ⟨k + 1, by omega, by go_num, HS4.out⟩
          case measure => simp [intOf]; omega
        · obtain rfl : k = 4096 := by omega
          go_wp2_with fail
          refine (add_out b g 4096 _ 4096 _ HS.out.s (by decide)).mono ?_
          rintro e w' ⟨rfl, rfl⟩
          go_wp2_with fail
          refine (top_all b g _ HS.out.s HS.out.t).mono ?_
          rintro e w5 ⟨⟨a, c, rfl⟩, hb5⟩
          have HS5 := Lib.hid (HS.out.quiet hb5)
          clear hb5 HS
          go_wp2_with fail
          refine (works_ok _ HS5.out.t).mono ?_
          rintro e w6 ⟨rfl, hb6⟩
          go_wp2
          go_ret
          exact ⟨rfl, bel2 HS5.out.bel hb6⟩
end Go.Proofs.YtaenemdclmnnaaaDoor
