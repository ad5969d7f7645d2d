/- The range-function (*Queue).all: it yields the ids with their times, in order, whatever the loop's body does to other blocks. -/
import Derived.RangeFuncNested
import Derived.RangeFuncBound
import Derived.RangeFuncBox
import Derived.RangeFuncCalls
import Derived.RangeFuncLeaves
import Derived.Shelf.Abstract
import Derived.Shelf.RegionOpen
import Derived.BigFrameIn
import Derived.OwnWalkIn
import Derived.TacticsInMore
import Derived.LoopNIn
import Derived.LoopIn
import Derived.Test.YtlnjgbdekcgmpaaEg
namespace Go.Proofs.Ytlnjgbdekcgmpaa
open Go.RowKit Go.Shelf
attribute [local go_sem] Oper.semAt_some

theorem all_ok (v : Option Addr) (w : World) : Calls Try.prog 36 #[.pointer v] w fun e w' => e = .returned (.func (.func 42) #[] #[.pointer (some ⟨w.heap.size, 0, none⟩)]) ∧ w.alloc (.cells #[.pointer v] 24) = w' := by
  go_enter Try.func36, Try.ntmps36
  go_wp2
  go_ret
  exact ⟨rfl, rfl⟩

/-- What a round that goes on keeps: the blocks below n₀ that X does not name. -/
def KpS (X : Nat → Prop) (n₀ : Nat) (A B : World) : Prop := ∀ k, k < n₀ → ¬ X k → B.heap[k]? = A.heap[k]?
theorem KpS.refl (X : Nat → Prop) (n₀ : Nat) (A : World) : KpS X n₀ A A := fun _ _ _ => rfl
theorem KpS.trans {X : Nat → Prop} {n₀ : Nat} {A B C : World} (h : KpS X n₀ A B) (k : KpS X n₀ B C) : KpS X n₀ A C := fun i hi hx => (k i hi hx).trans (h i hi hx)
theorem kpS_b {X : Nat → Prop} {n₀ : Nat} {w : World} (hn : n₀ ≤ w.heap.size) (W : World) (l : Nat) (o o' : Obj) (hl : w.heap.size ≤ l) (h : W.heap[l]? = some o) (h1 : o.isCells = false) (h2 : o.isWalk = false) : KpS X n₀ W (W.putObj l o') := fun k hk _ =>
  (belowK_b hn W l o o' hl h h1 h2).block k hk
theorem KpS.of_below {X : Nat → Prop} {n₀ : Nat} {A B : World} (h : Below A.heap.size A B) (hn : n₀ ≤ A.heap.size) : KpS X n₀ A B := fun k hk _ => h.block k (by omega)

structure AllAt (W : World) (X : Nat → Prop) (n₀ Bs b k m : Nat) (v : Value) (L : List En) : Prop where
  q : QW W b k m v L
  bs : W.cell? ⟨Bs, 0, none⟩ = some (.pointer (some ⟨b, 0, none⟩))
  ft : ∀ g, QFoot b k m v g → g < n₀ ∧ ¬ X g
  ls : Bs < n₀
  xs : ¬ X Bs
theorem AllAt.kp {W W' : World} {X : Nat → Prop} {n₀ Bs b k m : Nat} {v : Value} {L : List En} (h : AllAt W X n₀ Bs b k m v L) (q : KpS X n₀ W W') : AllAt W' X n₀ Bs b k m v L :=
  ⟨h.q.same fun g hg => q g (h.ft g hg).1 (h.ft g hg).2, (World.cell?_of_block (a := ⟨Bs, 0, none⟩) (q Bs h.ls h.xs)).trans h.bs, h.ft, h.ls, h.xs⟩

/-- The id at a place, and its time. -/
theorem QW.at {w : World} {b k m : Nat} {a : Option Addr} {n c : Nat} {L : List En} (h : QW w b k m (.slice a n c) L) {j : Nat} (hj : j < L.length) : ∃ g, a = some ⟨g, 0, none⟩ ∧ w.cell? ⟨g, j, none⟩ = some (.int .i64 L[j].1) ∧ (Instr.lookup 55 (.map (some m)) (.int .i64 L[j].1) false).run Try.prog w = .ok (.int .i64 L[j].2) w := by
  have hr := h.line.row
  rcases hr.2 with ⟨e, h0⟩ | ⟨g, cap, cur, e, _⟩
  · rw [ids_length] at h0; omega
  · injection e with e1 e2 e3
    subst e1 e2 e3
    obtain ⟨_, _, _, _, _, _, hc⟩ := own_cell hr
    have hx : (ids L)[j]? = some L[j].1 := by unfold ids; simp [hj]
    have hm := h.line.map.look (i := L[j].1) (h.line.rg _ (List.mem_of_getElem? hx))
    have ht : tm L L[j].1 = some L[j].2 := (tm_some h.nod).2 (List.getElem_mem hj)
    rw [ht] at hm
    exact ⟨g, rfl, hc j _ hx, hm⟩

set_option maxRecDepth 100000 in
set_option maxHeartbeats 4000000 in
theorem all1_in (n : Nat) (hn : 1 ≤ n) (l Bs n₀ b k m : Nat) (v : Value) (L : List En) (X : Nat → Prop) (J Jx : List En → World → Prop)
    (hY : ∀ pre x W, J pre W → pre.length < L.length → YieldAt Fence.wide (n - 1) Try.prog l #[.int .i64 x.1, .int .i64 x.2] W fun e W' =>
      (e = .returned (.bool true) ∧ J (pre ++ [x]) W' ∧ KpS X n₀ W W') ∨ (e = .returned (.bool false) ∧ Jx (pre ++ [x]) W'))
    (W : World) (hA : AllAt W X n₀ Bs b k m v L) (h0 : J [] W) :
    CallsIn Fence.wide n Try.prog 42 #[.func (.yield l) #[] #[], .pointer (some ⟨Bs, 0, none⟩)] W fun e W' => (∃ v, e = .returned v) ∧
      ((∃ ys, ys = L ∧ J ys W') ∨ (∃ pre, pre <+: L ∧ Jx pre W')) := by
  obtain ⟨a, c, ev, hc1, hc2, _⟩ := hA.q.line.rd.len
  rw [ids_length] at ev hc1
  subst ev
  have hbs := hA.bs
  have hb0 := hA.q.c
  have hk1 := hA.q.line.c1
  have hlen := hA.q.len
  have HA := Lib.hid hA
  have HY := Lib.hid hY
  have H0 := Lib.hid h0
  clear hA hY h0
  obtain ⟨N, hN⟩ : ∃ N, L.length = N := ⟨_, rfl⟩
  have HN := Lib.hid hN
  rw [hN] at hc1 hlen hk1 HA HY
  clear hN
  refine callsIn_of_wp Try.func42 rfl trivial ?_ rfl
  simp only [Try.ntmps42, List.size_toArray, List.length_cons, List.length_nil, Nat.reduceAdd, Nat.reduceSub, Array.replicate_succ, Array.replicate_zero, List.push_toArray, List.append_toArray, List.nil_append, List.cons_append]
  gi_wp2_with (refine ⟨trivial, ?_⟩; gi_at_call 30; refine (callsIn_wide.2 (valid_yes _ _ _ HA.out.q.c)).mono ?_; rintro e w' ⟨rfl, rfl⟩)
  clear hbs hb0 hk1
  gi_loopw [16] (fun i wr => ∃ j : Nat, j ≤ N ∧ i = .int .i64 j ∧ Hid (J (L.take j) wr) ∧ Hid (KpS X n₀ W wr)) (fun i _ => N - (intOf i).toNat)
  case atStart => exact ⟨0, Nat.zero_le _, rfl, H0.out, KpS.refl _ _ _⟩
  case round =>
    obtain ⟨j, hj, rfl, HJ, HK⟩ := hrel
    have HA2 := Lib.hid (HA.out.kp HK.out)
    by_cases hlt : j < N
    · have hjl : j < L.length := by rw [HN.out]; exact hlt
      have hbs2 := HA2.out.bs
      have hb2 := HA2.out.q.c
      have hk2 := HA2.out.q.line.c0
      obtain ⟨g, rfl, hcell, hlook⟩ := HA2.out.q.at hjl
      have hYx := HY.out (L.take j) L[j] _ HJ.out (by rw [List.length_take]; omega)
      have hsn : L.take j ++ [L[j]] = L.take (j + 1) := by simp
      rw [hsn] at hYx
      obtain ⟨x, hx⟩ : ∃ x, L[j] = x := ⟨_, rfl⟩
      rw [hx] at hYx hcell hlook
      obtain ⟨x1, x2⟩ := x
      simp only at hYx hcell hlook
      obtain ⟨fn, tmps, assign, body, hy, hR⟩ := hYx
      clear hx hsn
      gi_wp2
      refine hR.mono ?_
      rintro e W3 (⟨rfl, hJ3, hk3⟩ | ⟨rfl, hJx3⟩)
      · have HJ4 := Lib.hid hJ3
        have HK4 := Lib.hid (HK.out.trans hk3)
        clear hJ3 hk3 hbs2 hb2 hk2 hy hcell hlook
        gi_wp2
        go_roundw
        case rel => exact ⟨j + 1, by omega, by go_num, HJ4.out, HK4.out⟩
        case measure => simp [intOf]; omega
      · have HJ4 := Lib.hid hJx3
        clear hJx3 hbs2 hb2 hk2 hy hcell hlook
        gi_wp2
        refine bodyPost_ret (results_none rfl _ _ _) rfl ?_
        exact ⟨⟨_, rfl⟩, .inr ⟨L.take (j + 1), List.take_prefix _ _, HJ4.out⟩⟩
    · have hp2 := HJ.out
      rw [List.take_of_length_le (by rw [HN.out]; omega)] at hp2
      have HP2 := Lib.hid hp2
      clear hp2
      gi_wp2
      go_end0
      exact ⟨⟨_, rfl⟩, .inl ⟨_, rfl, HP2.out⟩⟩

def encE (x : En) : Array Value := #[.int .i64 x.1, .int .i64 x.2]
theorem all_stops (n : Nat) (hn : 1 ≤ n) (Bs n₀ b k m : Nat) (v : Value) (L : List En) (X : Nat → Prop) (w : World) (hA : AllAt w X n₀ Bs b k m v L) (hn₀ : n₀ ≤ w.heap.size) :
    SeqStopsK Fence.wide n Try.prog 42 #[.pointer (some ⟨Bs, 0, none⟩)] encE (KpS X n₀) (fun ys => ys = L) (fun pre => pre <+: L) L.length w := fun l J Jx W hW _ _ hY h0 =>
  all1_in n hn l Bs n₀ b k m v L X J Jx hY W (hA.kp (KpS.of_below hW hn₀)) h0
theorem stops_inv (n : Nat) (hn : 1 ≤ n) (Bs : Nat) (v : Option Addr) (Kp : World → World → Prop) (w : World) (hv : Inv w v) (hbs : w.cell? ⟨Bs, 0, none⟩ = some (.pointer v)) :
    SeqStopsK Fence.wide n Try.prog 42 #[.pointer (some ⟨Bs, 0, none⟩)] encE Kp (fun ys => ys = []) (fun _ => False) 0 w := fun l J Jx W hW _ _ hY h0 => by
  have hbs2 := (hW.cell (p := ⟨Bs, 0, none⟩) (World.block_lt_of_cell? _ _ hbs)).trans hbs
  have HV := Lib.hid (hv.below hW)
  have H0 := Lib.hid h0
  clear hv hbs h0 hY hW
  refine callsIn_of_wp Try.func42 rfl trivial ?_ rfl
  simp only [Try.ntmps42, List.size_toArray, List.length_cons, List.length_nil, Nat.reduceAdd, Nat.reduceSub, Array.replicate_succ, Array.replicate_zero, List.push_toArray, List.append_toArray, List.nil_append, List.cons_append]
  gi_wp2_with (refine ⟨trivial, ?_⟩; gi_at_call 30; refine (callsIn_wide.2 (valid_no _ _ HV.out)).mono ?_; rintro e w' ⟨rfl, rfl⟩)
  refine bodyPost_ret (results_none rfl _ _ _) rfl ?_
  exact ⟨⟨_, rfl⟩, .inl ⟨_, rfl, H0.out⟩⟩
end Go.Proofs.Ytlnjgbdekcgmpaa
