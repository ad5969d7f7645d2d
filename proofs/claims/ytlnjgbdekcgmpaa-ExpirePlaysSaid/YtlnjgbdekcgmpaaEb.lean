/- The contract of the closure that orders two ids. -/
import Derived.Test.YtlnjgbdekcgmpaaEa
import Derived.Deep.RegionWith
import Derived.Deep.RegionHeld3
namespace Go.Proofs.Ytlnjgbdekcgmpaa
open Go.RowKit

def cmpE (p q : En) : Int := if cmpi p.2 q.2 ≠ 0 then cmpi p.2 q.2 else cmpi p.1 q.1
theorem cmpE_lt (p q : En) : cmpE p q < 0 ↔ lt p q = true := by
  unfold cmpE cmpi
  rw [lt_iff]
  split <;> (repeat' split) <;> omega
def ti (T : Int → Option Int) (i : Int) : Int := (T i).getD 0
set_option maxHeartbeats 2000000 in
theorem cmp1_ok (x k m n : Nat) (v : Value) (T : Int → Option Int) (xs : List Int) (a b : Int) (ha : I64 a) (hb : I64 b) (w : World) (hx : w.cell? ⟨x, 0, none⟩ = some (.pointer (some ⟨k, 0, none⟩))) (h : LineW w k m v n T xs) :
    Calls Try.prog 47 #[.int .i64 a, .int .i64 b, .pointer (some ⟨x, 0, none⟩)] w fun e w' => e = .returned (.int .i64 (cmpE (a, ti T a) (b, ti T b))) ∧ Below w.heap.size w w' := by
  have hk0 := h.c0
  have hm : MapW w.drew m n T := h.map.same rfl
  have hla := hm.look ha
  have hlb := hm.look hb
  unfold cmpE
  change Calls _ _ _ _ fun e w' => e = .returned (.int .i64 (if cmpi (ti T a) (ti T b) ≠ 0 then cmpi (ti T a) (ti T b) else cmpi a b)) ∧ _
  rw [show (T a).getD 0 = ti T a from rfl] at hla
  rw [show (T b).getD 0 = ti T b from rfl] at hlb
  obtain ⟨ta, hta⟩ : ∃ ta, ti T a = ta := ⟨_, rfl⟩
  obtain ⟨tb, htb⟩ : ∃ tb, ti T b = tb := ⟨_, rfl⟩
  rw [hta] at hla ⊢
  rw [htb] at hlb ⊢
  have c1 := cmp64_ok ta tb
  have c2 := cmpint_ok a b
  generalize cmpi ta tb = r1 at *
  generalize cmpi a b = r2 at *
  have c3 : ∀ (g : Nat) (W : World) (_ : W.cell? ⟨g, 0, none⟩ = some (.int .i64 r1)) (_ : W.cell? ⟨g, 1, none⟩ = some (.int .i64 r2)), Calls Try.prog 48 #[.slice (some ⟨g, 0, none⟩) 2 2] W fun e w' => e = .returned (.int .i64 (if r1 ≠ 0 then r1 else r2)) ∧ W = w' := fun g W => or_ok g r1 r2 W
  generalize (if r1 ≠ 0 then r1 else r2) = r3 at *
  have hB : ∀ c : Array Value, Below w.heap.size w (w.drew.alloc (.cells c 3)) := fun c => (bel_drew (Below.refl _ w)).alloc (Nat.le_refl _) _
  obtain ⟨S, hS⟩ : ∃ S : World → Prop, S = fun W => W.cell? ⟨x, 0, none⟩ = some (.pointer (some ⟨k, 0, none⟩)) ∧ W.cell? ⟨k, 0, none⟩ = some (.map (some m)) ∧ (Instr.lookup 55 (.map (some m)) (.int .i64 a) false).run Try.prog W = .ok (.int .i64 ta) W ∧ (Instr.lookup 55 (.map (some m)) (.int .i64 b) false).run Try.prog W = .ok (.int .i64 tb) W := ⟨_, rfl⟩
  have z0 : S w.drew := by rw [hS]; exact ⟨hx, hk0, hla, hlb⟩
  have hMa : ∀ c : Array Value, MapW (w.drew.alloc (.cells c 3)) m n T := fun c => hm.same (Below.heap_alloc _ _ _ hm.lt)
  have z1 : ∀ c : Array Value, S (w.drew.alloc (.cells c 3)) := fun c => by
    rw [hS]
    have e1 : x < w.heap.size := World.block_lt_of_cell? _ _ hx
    have e2 : k < w.heap.size := World.block_lt_of_cell? _ _ hk0
    refine ⟨?_, ?_, by rw [(hMa c).look ha]; exact congrArg (fun q => Result.ok (Value.int .i64 q) _) hta, by rw [(hMa c).look hb]; exact congrArg (fun q => Result.ok (Value.int .i64 q) _) htb⟩ <;> go_simp
  subst hS
  clear h hm ha hb hMa hta htb
  go_enter Try.func47, Try.ntmps47
  go_wp2_with fail
  go_region_held3 (fun W => W.cell? ⟨x, 0, none⟩ = some (.pointer (some ⟨k, 0, none⟩)) ∧ W.cell? ⟨k, 0, none⟩ = some (.map (some m)) ∧ (Instr.lookup 55 (.map (some m)) (.int .i64 a) false).run Try.prog W = .ok (.int .i64 ta) W ∧ (Instr.lookup 55 (.map (some m)) (.int .i64 b) false).run Try.prog W = .ok (.int .i64 tb) W) (first | exact z0 | exact z1 _) (first
    | (go_at_call 49; refine (c1 _).mono ?_; rintro e w' ⟨rfl, rfl⟩)
    | (go_at_call 50; refine (c2 _).mono ?_; rintro e w' ⟨rfl, rfl⟩)
    | (go_at_call 48; refine (c3 _ _ (by go_simp) (by go_simp)).mono ?_; rintro e w' ⟨rfl, rfl⟩))
  all_goals
    go_wp2
    go_ret
    exact ⟨rfl, hB _⟩
end Go.Proofs.Ytlnjgbdekcgmpaa
