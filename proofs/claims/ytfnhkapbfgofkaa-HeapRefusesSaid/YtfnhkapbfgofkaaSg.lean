/- The contracts of gens.Check, gens.After and gens.Next (as in stage 1's texts, without the functions that this seat does not hold). -/
import Derived.Test.YtfnhkapbfgofkaaRows
import Derived.WalkKit
import Derived.WalkSpells
import Derived.WalkLawsBesides
import Derived.Lib.Hide
import Derived.Deep.QuietTactic
import Derived.BigQuiet
namespace Go.Proofs.Ytfnhkapbfgofkaa
open Go.RowKit

set_option maxHeartbeats 400000 in
theorem check_ok (g : Int) (w : World) (h1 : 1 ≤ g) (h2 : g ≤ 4294967295) :
    Calls Try.prog 63 #[.int .u32 g] w fun e w' => e = .returned (.int .i64 0) ∧ w = w' := by
  have hz : (g == 0) = false := by rw [beq_eq_false_iff_ne]; omega
  go_enter Try.func63, Try.ntmps63
  go_wp2
  go_ret
  exact ⟨rfl, rfl⟩
set_option maxHeartbeats 400000 in
theorem check_zero (w : World) :
    Calls Try.prog 63 #[.int .u32 0] w fun e w' => e = .returned (.int .i64 2) ∧ w = w' := by
  go_enter Try.func63, Try.ntmps63
  go_wp2
  go_ret
  exact ⟨rfl, rfl⟩

theorem bcell {W w1 : World} {n : Nat} (hb : Below n W w1) : (∀ b o, b < n → w1.cell? ⟨b, o, none⟩ = W.cell? ⟨b, o, none⟩) ∧ (∀ b o, b < n → w1.frozen? ⟨b, o, none⟩ = W.frozen? ⟨b, o, none⟩) :=
  ⟨fun b o h => hb.cell (p := ⟨b, o, none⟩) h, fun b o h => hb.frozen (p := ⟨b, o, none⟩) h⟩

set_option maxHeartbeats 400000 in
theorem later_yes (g n : Int) (w : World) (b1 b2 : Nat) (hn : w.cell? ⟨b1, 0, none⟩ = some (.int .u64 n)) (hg : w.cell? ⟨b2, 0, none⟩ = some (.int .u32 g)) (h1 : 1 ≤ g) (h2 : g ≤ 4294967295) (h3 : 0 ≤ n) (h4 : n ≤ 4294967295 - g)
    (hb1 : b1 < w.heap.size) (hb2 : b2 < w.heap.size) :
    Calls Try.prog 84 #[.pointer (some ⟨b1, 0, none⟩), .pointer (some ⟨b2, 0, none⟩)] w fun e w' => e = .returned (.agg #[.int .u32 (g + n), .bool true]) ∧ Below w.heap.size w w' := by
  go_enter Try.func84, Try.ntmps84
  go_wp2
  exact bodyPost_ret (v := .agg #[.int .u32 (g + n), .bool true]) (by simp [results, Try.results84, go_sem]) rfl ⟨rfl, (Below.refl _ _).alloc (Nat.le_refl _) _⟩

set_option maxHeartbeats 400000 in
theorem later_no (g n : Int) (w : World) (b1 b2 : Nat) (hn : w.cell? ⟨b1, 0, none⟩ = some (.int .u64 n)) (hg : w.cell? ⟨b2, 0, none⟩ = some (.int .u32 g)) (h1 : 1 ≤ g) (h2 : g ≤ 4294967295) (h4 : 4294967295 - g < n)
    (hb1 : b1 < w.heap.size) (hb2 : b2 < w.heap.size) :
    Calls Try.prog 84 #[.pointer (some ⟨b1, 0, none⟩), .pointer (some ⟨b2, 0, none⟩)] w fun e w' => e = .returned (.agg #[.int .u32 0, .bool false]) ∧ Below w.heap.size w w' := by
  go_enter Try.func84, Try.ntmps84
  go_wp2
  exact bodyPost_ret (v := .agg #[.int .u32 0, .bool false]) (by simp [results, Try.results84, go_sem]) rfl ⟨rfl, (Below.refl _ _).alloc (Nat.le_refl _) _⟩

set_option maxHeartbeats 400000 in
theorem askLater_ok (g n x : Int) (b : Bool) (w : World) (b1 b2 b3 : Nat) (hn : w.cell? ⟨b1, 0, none⟩ = some (.int .u64 n)) (hg : w.cell? ⟨b2, 0, none⟩ = some (.int .u32 g)) (hs : w.cell? ⟨b3, 0, none⟩ = some (.int .u32 g)) (h1 : 1 ≤ g) (h2 : g ≤ 4294967295)
    (hb1 : b1 < w.heap.size) (hb2 : b2 < w.heap.size) (hb3 : b3 < w.heap.size)
    (hl : ∀ W : World, W.cell? ⟨b1, 0, none⟩ = some (.int .u64 n) → W.cell? ⟨b2, 0, none⟩ = some (.int .u32 g) → b1 < W.heap.size → b2 < W.heap.size → Calls Try.prog 84 #[.pointer (some ⟨b1, 0, none⟩), .pointer (some ⟨b2, 0, none⟩)] W fun e w' => e = .returned (.agg #[.int .u32 x, .bool b]) ∧ Below W.heap.size W w') :
    Calls Try.prog 83 #[.func (.func 84) #[] #[.pointer (some ⟨b1, 0, none⟩), .pointer (some ⟨b2, 0, none⟩)], .slice (some ⟨b3, 0, none⟩) 1 1] w fun e w' => e = .returned (.tuple #[.agg #[.int .u32 x, .bool b], .int .i64 0]) ∧ Below w.heap.size w w' := by
  have HL := Lib.hid hl
  clear hl
  go_enter Try.func83, Try.ntmps83
  go_wp2
  go_loop [12] (fun i => ∃ k : Nat, k ≤ 1 ∧ i = .int .i64 k) (fun i => 1 - (intOf i).toNat)
  case atStart => exact ⟨0, by omega, rfl⟩
  case round =>
    obtain ⟨k, hk, rfl⟩ := hrel
    by_cases hlt : k < 1
    · obtain rfl : k = 0 := by omega
      go_wp2_with (go_at_call 63; refine (check_ok _ _ h1 h2).mono ?_; rintro e w' ⟨rfl, rfl⟩)
      go_round
      case rel => exact ⟨1, by omega, by go_num⟩
      case measure => simp [intOf]
    · go_wp2_with fail
      refine (HL.out _ (by go_simp) (by go_simp) (by simp; omega) (by simp; omega)).mono ?_
      rintro e w1 ⟨rfl, hb⟩
      obtain ⟨hc, hf⟩ := bcell hb
      have hz : w.heap.size < w1.heap.size := by have := hb.size; simp at this; omega
      have hc0 : w1.cell? ⟨w.heap.size, 0, none⟩ = some (.int .u32 0) := by rw [hc _ _ (by simp)]; go_simp
      have hc1 : w1.cell? ⟨w.heap.size, 1, none⟩ = some (.bool false) := by rw [hc _ _ (by simp)]; go_simp
      have hf0 : w1.frozen? ⟨w.heap.size, 0, none⟩ = false := by rw [hf _ _ (by simp)]; go_simp
      have hf1 : w1.frozen? ⟨w.heap.size, 1, none⟩ = false := by rw [hf _ _ (by simp)]; go_simp
      clear hc hf
      go_wp2
      exact bodyPost_ret (v := .tuple #[.agg #[.int .u32 x, .bool b], .int .i64 0]) (by simp [results, Try.results83, go_sem, hc0, hc1]) rfl ⟨rfl, ((((Below.refl _ _).alloc (Nat.le_refl _) _).trans (hb.mono (by simp))).setCell (by simp) _).setCell (by simp) _⟩

set_option maxHeartbeats 400000 in
theorem askLater_zero (w : World) (q : Value) (b3 : Nat) (hs : w.cell? ⟨b3, 0, none⟩ = some (.int .u32 0)) (hb3 : b3 < w.heap.size) :
    Calls Try.prog 83 #[q, .slice (some ⟨b3, 0, none⟩) 1 1] w fun e w' => e = .returned (.tuple #[.agg #[.int .u32 0, .bool false], .int .i64 2]) ∧ Below w.heap.size w w' := by
  go_enter Try.func83, Try.ntmps83
  go_wp2
  go_loop [12] (fun i => i = .int .i64 0) (fun i => 1 - (intOf i).toNat)
  case atStart => rfl
  case round =>
    obtain rfl := hrel
    go_wp2_with (go_at_call 63; refine (check_zero _).mono ?_; rintro e w' ⟨rfl, rfl⟩)
    exact bodyPost_ret (v := .tuple #[.agg #[.int .u32 0, .bool false], .int .i64 2]) (by simp [results, Try.results83, go_sem]) rfl ⟨rfl, ((Below.refl _ _).alloc (Nat.le_refl _) _).alloc (by simp) _⟩

set_option maxHeartbeats 400000 in
theorem after_any (g n x : Int) (b : Bool) (w : World) (h1 : 1 ≤ g) (h2 : g ≤ 4294967295)
    (hl : ∀ (W : World) (b1 b2 : Nat), W.cell? ⟨b1, 0, none⟩ = some (.int .u64 n) → W.cell? ⟨b2, 0, none⟩ = some (.int .u32 g) → b1 < W.heap.size → b2 < W.heap.size → Calls Try.prog 84 #[.pointer (some ⟨b1, 0, none⟩), .pointer (some ⟨b2, 0, none⟩)] W fun e w' => e = .returned (.agg #[.int .u32 x, .bool b]) ∧ Below W.heap.size W w') :
    Calls Try.prog 82 #[.int .u32 g, .int .u64 n] w fun e w' => e = .returned (.tuple #[.int .u32 x, .bool b, .int .i64 0]) ∧ Below w.heap.size w w' := by
  have hmf : ∀ (fn : Fn) (first cap : Array Value) (w : World), (Instr.makeFunc fn first cap).run Try.prog w = .ok (.func fn first cap) w := fun _ _ _ _ => rfl
  have HL := Lib.hid hl
  clear hl
  go_enter Try.func82, Try.ntmps82
  go_wp2_with fail
  refine (askLater_ok g n x b _ _ _ _ (by go_simp) (by go_simp) (by go_simp) h1 h2 (by simp) (by simp; omega) (by simp) (fun W => HL.out W _ _)).mono ?_
  rintro e w1 ⟨rfl, hb⟩
  have hz : w.heap.size + 1 + 1 < w1.heap.size := by have := hb.size; simp at this; omega
  go_wp2
  go_quiet (fail)
  go_wp2
  go_ret3
  refine ⟨rfl, below_drewN (((((Below.refl _ _).alloc (Nat.le_refl _) _).alloc (by simp) _).alloc (by simp; omega) _ |>.trans (hb.mono (by simp; omega))).alloc (by omega) _) _⟩

theorem after_yes (g n : Int) (w : World) (h1 : 1 ≤ g) (h2 : g ≤ 4294967295) (h3 : 0 ≤ n) (h4 : n ≤ 4294967295 - g) :
    Calls Try.prog 82 #[.int .u32 g, .int .u64 n] w fun e w' => e = .returned (.tuple #[.int .u32 (g + n), .bool true, .int .i64 0]) ∧ Below w.heap.size w w' :=
  after_any g n _ _ w h1 h2 fun W b1 b2 hn hg hb1 hb2 => later_yes g n W b1 b2 hn hg h1 h2 h3 h4 hb1 hb2
theorem after_no (g n : Int) (w : World) (h1 : 1 ≤ g) (h2 : g ≤ 4294967295) (h4 : 4294967295 - g < n) :
    Calls Try.prog 82 #[.int .u32 g, .int .u64 n] w fun e w' => e = .returned (.tuple #[.int .u32 0, .bool false, .int .i64 0]) ∧ Below w.heap.size w w' :=
  after_any g n _ _ w h1 h2 fun W b1 b2 hn hg hb1 hb2 => later_no g n W b1 b2 hn hg h1 h2 h4 hb1 hb2

set_option maxHeartbeats 400000 in
theorem after_zero (n : Int) (w : World) :
    Calls Try.prog 82 #[.int .u32 0, .int .u64 n] w fun e w' => e = .returned (.tuple #[.int .u32 0, .bool false, .int .i64 2]) ∧ Below w.heap.size w w' := by
  have hmf : ∀ (fn : Fn) (first cap : Array Value) (w : World), (Instr.makeFunc fn first cap).run Try.prog w = .ok (.func fn first cap) w := fun _ _ _ _ => rfl
  go_enter Try.func82, Try.ntmps82
  go_wp2_with fail
  refine (askLater_zero _ _ _ (by go_simp) (by simp)).mono ?_
  rintro e w1 ⟨rfl, hb⟩
  have hz : w.heap.size + 1 + 1 < w1.heap.size := by have := hb.size; simp at this; omega
  go_wp2
  go_quiet (fail)
  go_wp2
  go_ret3
  refine ⟨rfl, below_drewN (((((Below.refl _ _).alloc (Nat.le_refl _) _).alloc (by simp) _).alloc (by simp; omega) _ |>.trans (hb.mono (by simp; omega))).alloc (by omega) _) _⟩

set_option maxHeartbeats 400000 in
theorem next_yes (g : Int) (w : World) (h1 : 1 ≤ g) (h2 : g < 4294967295) :
    Calls Try.prog 77 #[.int .u32 g] w fun e w' => e = .returned (.tuple #[.int .u32 (g + 1), .bool true, .int .i64 0]) ∧ Below w.heap.size w w' := by
  go_enter Try.func77, Try.ntmps77
  go_wp2_with fail
  refine (after_yes g 1 _ h1 (by omega) (by omega) (by omega)).mono ?_
  rintro e w1 ⟨rfl, hb⟩
  go_wp2
  go_ret3
  exact ⟨rfl, hb⟩
set_option maxHeartbeats 400000 in
theorem next_last (w : World) :
    Calls Try.prog 77 #[.int .u32 4294967295] w fun e w' => e = .returned (.tuple #[.int .u32 0, .bool false, .int .i64 0]) ∧ Below w.heap.size w w' := by
  go_enter Try.func77, Try.ntmps77
  go_wp2_with fail
  refine (after_no _ 1 _ (by omega) (by omega) (by omega)).mono ?_
  rintro e w1 ⟨rfl, hb⟩
  go_wp2
  go_ret3
  exact ⟨rfl, hb⟩
set_option maxHeartbeats 400000 in
theorem next_zero (w : World) :
    Calls Try.prog 77 #[.int .u32 0] w fun e w' => e = .returned (.tuple #[.int .u32 0, .bool false, .int .i64 2]) ∧ Below w.heap.size w w' := by
  go_enter Try.func77, Try.ntmps77
  go_wp2_with fail
  refine (after_zero 1 _).mono ?_
  rintro e w1 ⟨rfl, hb⟩
  go_wp2
  go_ret3
  exact ⟨rfl, hb⟩
end Go.Proofs.Ytfnhkapbfgofkaa
