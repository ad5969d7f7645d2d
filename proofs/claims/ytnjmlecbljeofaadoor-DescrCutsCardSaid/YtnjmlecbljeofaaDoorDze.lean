/- The document's Order; both Orders by one function; Made. -/
import Derived.Test.YtnjmlecbljeofaaDoorDzd
namespace Go.Proofs.YtnjmlecbljeofaaDoor
open Go.RowKit

theorem cmps_ord (k p g k' p' g' : Int) : cmps (fun j => if j = 0 then k else if j = 1 then p else g) (fun j => if j = 0 then k' else if j = 1 then p' else g') = ord k p g k' p' g' := by
  unfold cmps ord cmpi
  simp only [if_true]
  by_cases h1 : k < k'
  · simp [h1]
  · by_cases h2 : k' < k
    · simp [h1, h2]
    · by_cases h3 : p < p'
      · simp [h1, h2, h3]
      · by_cases h4 : p' < p
        · simp [h1, h2, h3, h4]
        · simp [h1, h2, h3, h4]

theorem order_ok (k p g k' p' g' : Int) (h1 : Rg k p g) (h2 : Rg k' p' g') (w : World) :
    Calls Tryd.prog 30 #[.agg #[.int .i64 k, .int .i64 p, .int .u32 g], .agg #[.int .i64 k', .int .i64 p', .int .u32 g']] w fun e w' => e = .returned (.int .i64 (ord k p g k' p' g')) ∧ Below w.heap.size w w' := by
  rw [← cmps_ord]
  exact order_walk k p g k' p' g' h1 h2 w

set_option maxHeartbeats 1000000 in
set_option maxRecDepth 100000 in
theorem rorder_lt1 (k p g k' p' g' : Int) (h : k < k') (w : World) :
    Calls Tryd.prog 31 #[.agg #[.int .i64 k, .int .i64 p, .int .u32 g], .agg #[.int .i64 k', .int .i64 p', .int .u32 g']] w fun e w' => e = .returned (.int .i64 (-1)) ∧ Below w.heap.size w w' := by
  have n1 : (k == k') = false := beq_eq_false_iff_ne.2 (by omega)
  have h' : ¬ k' < k := by omega
  go_enter Tryd.func31, Tryd.ntmps31
  go_wp2
  go_ret
  exact ⟨rfl, ((Below.refl _ _).alloc (Nat.le_refl _) _).alloc (by simp) _⟩
set_option maxHeartbeats 1000000 in
set_option maxRecDepth 100000 in
theorem rorder_gt1 (k p g k' p' g' : Int) (h : k' < k) (w : World) :
    Calls Tryd.prog 31 #[.agg #[.int .i64 k, .int .i64 p, .int .u32 g], .agg #[.int .i64 k', .int .i64 p', .int .u32 g']] w fun e w' => e = .returned (.int .i64 (1)) ∧ Below w.heap.size w w' := by
  have n1 : (k == k') = false := beq_eq_false_iff_ne.2 (by omega)
  have h' : ¬ k < k' := by omega
  go_enter Tryd.func31, Tryd.ntmps31
  go_wp2
  go_ret
  exact ⟨rfl, ((Below.refl _ _).alloc (Nat.le_refl _) _).alloc (by simp) _⟩
set_option maxHeartbeats 1000000 in
set_option maxRecDepth 100000 in
theorem rorder_lt2 (k p g p' g' : Int) (h : p < p') (w : World) :
    Calls Tryd.prog 31 #[.agg #[.int .i64 k, .int .i64 p, .int .u32 g], .agg #[.int .i64 k, .int .i64 p', .int .u32 g']] w fun e w' => e = .returned (.int .i64 (-1)) ∧ Below w.heap.size w w' := by
  have n1 : (p == p') = false := beq_eq_false_iff_ne.2 (by omega)
  have h' : ¬ p' < p := by omega
  go_enter Tryd.func31, Tryd.ntmps31
  go_wp2
  go_ret
  exact ⟨rfl, ((Below.refl _ _).alloc (Nat.le_refl _) _).alloc (by simp) _⟩
set_option maxHeartbeats 1000000 in
set_option maxRecDepth 100000 in
theorem rorder_gt2 (k p g p' g' : Int) (h : p' < p) (w : World) :
    Calls Tryd.prog 31 #[.agg #[.int .i64 k, .int .i64 p, .int .u32 g], .agg #[.int .i64 k, .int .i64 p', .int .u32 g']] w fun e w' => e = .returned (.int .i64 (1)) ∧ Below w.heap.size w w' := by
  have n1 : (p == p') = false := beq_eq_false_iff_ne.2 (by omega)
  have h' : ¬ p < p' := by omega
  go_enter Tryd.func31, Tryd.ntmps31
  go_wp2
  go_ret
  exact ⟨rfl, ((Below.refl _ _).alloc (Nat.le_refl _) _).alloc (by simp) _⟩
set_option maxHeartbeats 1000000 in
set_option maxRecDepth 100000 in
theorem rorder_lt3 (k p g g' : Int) (h : g < g') (w : World) :
    Calls Tryd.prog 31 #[.agg #[.int .i64 k, .int .i64 p, .int .u32 g], .agg #[.int .i64 k, .int .i64 p, .int .u32 g']] w fun e w' => e = .returned (.int .i64 (-1)) ∧ Below w.heap.size w w' := by
  have n1 : (g == g') = false := beq_eq_false_iff_ne.2 (by omega)
  have h' : ¬ g' < g := by omega
  go_enter Tryd.func31, Tryd.ntmps31
  go_wp2
  go_ret
  exact ⟨rfl, ((Below.refl _ _).alloc (Nat.le_refl _) _).alloc (by simp) _⟩
set_option maxHeartbeats 1000000 in
set_option maxRecDepth 100000 in
theorem rorder_gt3 (k p g g' : Int) (h : g' < g) (w : World) :
    Calls Tryd.prog 31 #[.agg #[.int .i64 k, .int .i64 p, .int .u32 g], .agg #[.int .i64 k, .int .i64 p, .int .u32 g']] w fun e w' => e = .returned (.int .i64 (1)) ∧ Below w.heap.size w w' := by
  have n1 : (g == g') = false := beq_eq_false_iff_ne.2 (by omega)
  have h' : ¬ g < g' := by omega
  go_enter Tryd.func31, Tryd.ntmps31
  go_wp2
  go_ret
  exact ⟨rfl, ((Below.refl _ _).alloc (Nat.le_refl _) _).alloc (by simp) _⟩
set_option maxHeartbeats 1000000 in
set_option maxRecDepth 100000 in
theorem rorder_eq (k p g : Int) (w : World) :
    Calls Tryd.prog 31 #[.agg #[.int .i64 k, .int .i64 p, .int .u32 g], .agg #[.int .i64 k, .int .i64 p, .int .u32 g]] w fun e w' => e = .returned (.int .i64 0) ∧ Below w.heap.size w w' := by
  go_enter Tryd.func31, Tryd.ntmps31
  go_wp2
  go_ret
  exact ⟨rfl, ((Below.refl _ _).alloc (Nat.le_refl _) _).alloc (by simp) _⟩

theorem rorder_ok (k p g k' p' g' : Int) (w : World) :
    Calls Tryd.prog 31 #[.agg #[.int .i64 k, .int .i64 p, .int .u32 g], .agg #[.int .i64 k', .int .i64 p', .int .u32 g']] w fun e w' => e = .returned (.int .i64 (ord k p g k' p' g')) ∧ Below w.heap.size w w' := by
  unfold ord
  by_cases h1 : k < k'
  · rw [if_pos h1]; exact rorder_lt1 k p g k' p' g' h1 w
  rw [if_neg h1]
  by_cases h2 : k' < k
  · rw [if_pos h2]; exact rorder_gt1 k p g k' p' g' h2 w
  rw [if_neg h2]
  obtain rfl : k = k' := by omega
  by_cases h3 : p < p'
  · rw [if_pos h3]; exact rorder_lt2 k p g p' g' h3 w
  rw [if_neg h3]
  by_cases h4 : p' < p
  · rw [if_pos h4]; exact rorder_gt2 k p g p' g' h4 w
  rw [if_neg h4]
  obtain rfl : p = p' := by omega
  by_cases h5 : g < g'
  · rw [if_pos h5]; exact rorder_lt3 k p g g' h5 w
  rw [if_neg h5]
  by_cases h6 : g' < g
  · rw [if_pos h6]; exact rorder_gt3 k p g g' h6 w
  rw [if_neg h6]
  obtain rfl : g = g' := by omega
  exact rorder_eq k p g w

theorem made_at (kind slot gen kk og gg : Int) (h1 : 0 ≤ kind ∧ kind ≤ 255) (h2 : 0 ≤ slot ∧ slot ≤ 255) (h3 : 0 ≤ gen ∧ gen ≤ 4294967295) (hk : kind % 3 = kk) (ho : slot % 64 = og) (hg : max gen 1 = gg) (w : World) :
    Calls Tryd.prog 32 #[.int .u8 kind, .int .u8 slot, .int .u32 gen] w fun e w' => e = .returned (.tuple #[.agg #[.int .i64 (1 + kk), .int .i64 slot, .int .u32 gg], .agg #[.int .i64 (1 + kk), .int .i64 og, .int .u32 gg]]) ∧ Below w.heap.size w w' := by
  have hk2 : kind.tmod 3 = kk := by rw [Int.tmod_eq_emod_of_nonneg h1.1]; exact hk
  have ho2 : slot.tmod 64 = og := by rw [Int.tmod_eq_emod_of_nonneg h2.1]; exact ho
  by_cases h : gen < 1
  · obtain rfl : gg = 1 := by omega
    clear hg
    go_enter Tryd.func32, Tryd.ntmps32
    go_wp2
    refine bodyPost_ret (v := .tuple #[.agg #[.int .i64 (1 + kk), .int .i64 slot, .int .u32 1], .agg #[.int .i64 (1 + kk), .int .i64 og, .int .u32 1]]) (by simp [results, Tryd.results32, go_sem]) rfl ⟨rfl, ?_⟩
    exact ((Below.refl _ _).alloc (Nat.le_refl _) _).alloc (by simp) _
  · have hge : 1 ≤ gen := by omega
    obtain rfl : gg = gen := by omega
    clear hg h
    go_enter Tryd.func32, Tryd.ntmps32
    go_wp2
    refine bodyPost_ret (v := .tuple #[.agg #[.int .i64 (1 + kk), .int .i64 slot, .int .u32 gg], .agg #[.int .i64 (1 + kk), .int .i64 og, .int .u32 gg]]) (by simp [results, Tryd.results32, go_sem]) rfl ⟨rfl, ?_⟩
    exact ((Below.refl _ _).alloc (Nat.le_refl _) _).alloc (by simp) _

/-- The descriptor and the resource that Made makes. -/
def MadeV (kind slot gen : Int) (k p o g : Nat) : Prop := Okn 256 k p g ∧ Okn 64 k o g ∧ (k : Int) = 1 + kind % 3 ∧ (p : Int) = slot ∧ (o : Int) = slot % 64 ∧ (g : Int) = max gen 1
theorem made_ok (kind slot gen : Int) (h1 : 0 ≤ kind ∧ kind ≤ 255) (h2 : 0 ≤ slot ∧ slot ≤ 255) (h3 : 0 ≤ gen ∧ gen ≤ 4294967295) (w : World) :
    Calls Tryd.prog 32 #[.int .u8 kind, .int .u8 slot, .int .u32 gen] w fun e w' => ∃ k p o g : Nat, MadeV kind slot gen k p o g ∧ e = .returned (.tuple #[.agg #[.int .i64 k, .int .i64 p, .int .u32 g], .agg #[.int .i64 k, .int .i64 o, .int .u32 g]]) ∧ Below w.heap.size w w' := by
  refine (made_at kind slot gen _ _ _ h1 h2 h3 rfl rfl rfl w).mono ?_
  rintro e w' ⟨rfl, hb⟩
  have e1 : 1 + kind % 3 = ((1 + kind % 3).toNat : Int) := by omega
  have e2 : slot = (slot.toNat : Int) := by omega
  have e3 : slot % 64 = ((slot % 64).toNat : Int) := by omega
  have e4 : max gen 1 = ((max gen 1).toNat : Int) := by omega
  refine ⟨(1 + kind % 3).toNat, slot.toNat, (slot % 64).toNat, (max gen 1).toNat, ⟨⟨by omega, by omega, by omega, by omega, by omega⟩, ⟨by omega, by omega, by omega, by omega, by omega⟩, by omega, by omega, by omega, by omega⟩, ?_, hb⟩
  rw [← e1, ← e2, ← e3, ← e4]
end Go.Proofs.YtnjmlecbljeofaaDoor
