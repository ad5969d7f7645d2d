/- The range-function slots.in: it yields the slots in a state, in order, whatever the loop's body does to other blocks. -/
import Derived.RangeFuncNested
import Derived.RangeFuncBound
import Derived.RangeFuncBox
import Derived.RangeFuncCalls
import Derived.RangeFuncLeaves
import Derived.Shelf.Abstract
import Derived.Shelf.RegionOpen
import Derived.OwnWalkIn
import Derived.TacticsInMore
import Derived.LoopNIn
import Derived.LoopIn
import Derived.Maps.AppendAt
import Derived.Test.YtfnhkapbfgofkaaSc
namespace Go.Proofs.Ytfnhkapbfgofkaa
open Go.RowKit Go.Shelf
attribute [local go_sem] Oper.semAt_some

/-- What a round that goes on keeps: the blocks below n₀ that X does not name. -/
def KpS (X : Nat → Prop) (n₀ : Nat) (A B : World) : Prop := A.heap.size ≤ B.heap.size ∧ ∀ k, k < n₀ → ¬ X k → B.heap[k]? = A.heap[k]?
theorem KpS.refl (X : Nat → Prop) (n₀ : Nat) (A : World) : KpS X n₀ A A := ⟨Nat.le_refl _, fun _ _ _ => rfl⟩
theorem KpS.trans {X : Nat → Prop} {n₀ : Nat} {A B C : World} (h : KpS X n₀ A B) (k : KpS X n₀ B C) : KpS X n₀ A C := ⟨Nat.le_trans h.1 k.1, fun i hi hx => (k.2 i hi hx).trans (h.2 i hi hx)⟩
theorem KpS.of_below {X : Nat → Prop} {n₀ : Nat} {A B : World} (h : Below A.heap.size A B) (hn : n₀ ≤ A.heap.size) : KpS X n₀ A B := ⟨h.size, fun k hk _ => h.block k (by omega)⟩
theorem kpS_b {X : Nat → Prop} {n₀ : Nat} {w : World} (hn : n₀ ≤ w.heap.size) (W : World) (l : Nat) (o o' : Obj) (hl : w.heap.size ≤ l) (h : W.heap[l]? = some o) (h1 : o.isCells = false) (h2 : o.isWalk = false) : KpS X n₀ W (W.putObj l o') :=
  ⟨(belowK_b hn W l o o' hl h h1 h2).size, fun k hk _ => (belowK_b hn W l o o' hl h h1 h2).block k hk⟩

structure InAt (W : World) (X : Nat → Prop) (n₀ Bs Bw b : Nat) (T : Tb) (v : Nat) : Prop where
  t : TabW W b T
  bs : W.cell? ⟨Bs, 0, none⟩ = some (.pointer (some ⟨b, 0, none⟩))
  bw : W.cell? ⟨Bw, 0, none⟩ = some (.int .i64 v)
  sz : n₀ ≤ W.heap.size
  lb : b < n₀
  ls : Bs < n₀
  lw : Bw < n₀
  xb : ¬ X b
  xs : ¬ X Bs
  xw : ¬ X Bw
theorem InAt.kp {W W' : World} {X : Nat → Prop} {n₀ Bs Bw b v : Nat} {T : Tb} (h : InAt W X n₀ Bs Bw b T v) (k : KpS X n₀ W W') : InAt W' X n₀ Bs Bw b T v :=
  ⟨h.t.same (k.2 b h.lb h.xb), (World.cell?_of_block (a := ⟨Bs, 0, none⟩) (k.2 Bs h.ls h.xs)).trans h.bs, (World.cell?_of_block (a := ⟨Bw, 0, none⟩) (k.2 Bw h.lw h.xw)).trans h.bw, Nat.le_trans h.sz k.1, h.lb, h.ls, h.lw, h.xb, h.xs, h.xw⟩

theorem in_ok (v : Option Addr) (want : Int) (w : World) : Calls Try.prog 66 #[.pointer v, .int .i64 want] w fun e w' => e = .returned (.func (.func 75) #[] #[.pointer (some ⟨w.heap.size, 0, none⟩), .pointer (some ⟨w.heap.size + 1, 0, none⟩)]) ∧ (w.alloc (.cells #[.pointer v] 77)).alloc (.cells #[.int .i64 want] 107) = w' := by
  go_enter Try.func66, Try.ntmps66
  go_wp2
  go_ret
  exact ⟨rfl, rfl⟩

set_option maxRecDepth 100000 in
set_option maxHeartbeats 4000000 in
theorem in1_in (n : Nat) (hn : 1 ≤ n) (l Bs Bw n₀ b B0 : Nat) (T : Tb) (v : Nat) (X : Nat → Prop) (J Jx : List Nat → World → Prop) (hJ : AbidesFrom B0 J)
    (hY : ∀ pre x W, x ∈ sel T.s v T.n → J pre W → pre.length < (sel T.s v T.n).length → YieldAt Fence.wide (n - 1) Try.prog l #[.agg #[.int .i64 ((x : Nat) : Int), .int .u32 (T.g x)]] W fun e W' =>
      (e = .returned (.bool true) ∧ J (pre ++ [x]) W' ∧ KpS X n₀ W W') ∨ (e = .returned (.bool false) ∧ Jx (pre ++ [x]) W'))
    (W : World) (hA : InAt W X n₀ Bs Bw b T v) (h0 : J [] W) :
    CallsIn Fence.wide n Try.prog 75 #[.func (.yield l) #[] #[], .pointer (some ⟨Bs, 0, none⟩), .pointer (some ⟨Bw, 0, none⟩)] W fun e W' => (∃ v, e = .returned v) ∧
      ((∃ ys, ys = sel T.s v T.n ∧ J ys W') ∨ (∃ pre, pre <+: sel T.s v T.n ∧ Jx pre W')) := by
  have hbs := hA.bs
  have hc0 := hA.t.c0
  have hn256 := hA.t.ok.hi
  have HA := Lib.hid hA
  have HY := Lib.hid hY
  have H0 := Lib.hid h0
  have HJA : Hid (∀ (pre : List Nat) (W : World) (o : Obj), J pre W → J pre (W.alloc o)) := fun pre W o h => hJ _ _ _ none h (World.grownBy_alloc W o none) (fun r e => by cases e)
  have HST : Hid ([] ++ selFrom T.s v 0 T.n = sel T.s v T.n) := by unfold Hid; rw [List.nil_append, selFrom_zero]
  clear hA hY h0 hJ
  refine callsIn_of_wp Try.func75 rfl trivial ?_ rfl
  simp only [Try.ntmps75, List.size_toArray, List.length_cons, List.length_nil, Nat.reduceAdd, Nat.reduceSub, Array.replicate_succ, Array.replicate_zero, List.push_toArray, List.append_toArray, List.nil_append, List.cons_append]
  gi_wp2_with (refine ⟨trivial, ?_⟩; gi_at_call 65; refine (callsIn_wide.2 (valid_yes _ _ _ HA.out.t)).mono ?_; rintro e w' ⟨rfl, rfl⟩)
  clear hbs hc0
  gi_loopw [13] (fun i wr => ∃ (k : Nat) (pre : List Nat), i = .int .i64 k ∧ Hid (J pre wr) ∧ Hid (KpS X n₀ W wr) ∧ Hid (pre ++ selFrom T.s v k T.n = sel T.s v T.n)) (fun i _ => T.n - (intOf i).toNat)
  case atStart => exact ⟨0, [], rfl, H0.out, KpS.refl _ _ _, HST.out⟩
  case round =>
    obtain ⟨k, pre, rfl, HJ, HK, HP⟩ := hrel
    have HA2 := Lib.hid (HA.out.kp HK.out)
    have hbs2 := HA2.out.bs
    have hbw2 := HA2.out.bw
    by_cases hlt : k < T.n
    · have hlb := HA2.out.t.bt
      have hls := Nat.lt_of_lt_of_le HA2.out.ls HA2.out.sz
      have hlw := Nat.lt_of_lt_of_le HA2.out.lw HA2.out.sz
      have hcs := HA2.out.t.cs (i := k) (by omega)
      have hcg := HA2.out.t.cg (i := k) (by omega)
      have hp2 := HP.out
      rw [selFrom_step T.s v hlt] at hp2
      obtain ⟨y, ey⟩ : ∃ y, T.g k = y := ⟨_, rfl⟩
      obtain ⟨x, ex⟩ : ∃ x, T.s k = x := ⟨_, rfl⟩
      rw [ey] at hcg
      rw [ex] at hcs hp2
      have HJ1 := Lib.hid (HJA.out pre wr (.cells #[.int .i64 x, .int .u32 y] 109) HJ.out)
      have HK1 := Lib.hid (HK.out.trans (KpS.of_below (X := X) ((Below.refl _ wr).alloc (Nat.le_refl _) (.cells #[.int .i64 x, .int .u32 y] 109)) HA2.out.sz))
      by_cases hx : x = v
      · subst hx
        rw [if_pos rfl] at hp2
        have hYx := HY.out pre k _ (by rw [← hp2]; simp) HJ1.out (by rw [← hp2]; simp)
        rw [ey] at hYx
        obtain ⟨fn, tmps, assign, body, hy, hR⟩ := hYx
        have HQ : Hid ((pre ++ [k]) ++ selFrom T.s x (k + 1) T.n = sel T.s x T.n) := by unfold Hid; rw [← hp2]; simp
        clear hp2 ey ex
        gi_wp2
        refine hR.mono ?_
        rintro e W3 (⟨rfl, hJ3, hk3⟩ | ⟨rfl, hJx3⟩)
        · have HJ4 := Lib.hid hJ3
          have HK4 := Lib.hid (HK1.out.trans hk3)
          clear hJ3 hk3 hbs2 hbw2 hy hcs hcg
          gi_wp2
          go_roundw
          case rel => exact ⟨k + 1, _, by go_num, HJ4.out, HK4.out, HQ.out⟩
          case measure => simp [intOf]; omega
        · have HJ4 := Lib.hid hJx3
          clear hJx3 hbs2 hbw2 hy hcs hcg
          gi_wp2
          refine bodyPost_ret (results_none rfl _ _ _) rfl ?_
          exact ⟨⟨_, rfl⟩, .inr ⟨pre ++ [k], ⟨_, HQ.out⟩, HJ4.out⟩⟩
      · rw [if_neg hx, List.nil_append] at hp2
        have HQ := Lib.hid hp2
        have hxv : ((x : Int) == (v : Int)) = false := beq_eq_false_iff_ne.2 (by omega)
        clear hp2 ey ex hx
        gi_wp2
        refine ⟨fun _ h => (by cases h), ?_⟩
        gi_wp2
        go_roundw
        case rel => exact ⟨k + 1, pre, by go_num, HJ1.out, HK1.out, HQ.out⟩
        case measure => simp [intOf]; omega
    · have hp2 := HP.out
      rw [selFrom_done T.s v (by omega), List.append_nil] at hp2
      have HP2 := Lib.hid hp2
      clear hp2
      gi_wp2
      go_end0
      exact ⟨⟨_, rfl⟩, .inl ⟨_, HP2.out, HJ.out⟩⟩
end Go.Proofs.Ytfnhkapbfgofkaa
