/- The range-function colour.greys and the contract of Grey. -/
import Derived.RangeFuncNested
import Derived.RangeFuncBound
import Derived.RangeFuncBox
import Derived.RangeFuncCalls
import Derived.RangeFuncLeaves
import Derived.Shelf.Abstract
import Derived.Shelf.RegionOpen
import Derived.OwnWalkIn
import Derived.TacticsInMore
import Derived.LoopNIn
import Derived.LoopIn
import Derived.Maps.AppendAt
import Derived.Test.YthcpmcdgojgdlaaCj
namespace Go.Proofs.Ythcpmcdgojgdlaa
open Go.RowKit Go.Shelf
attribute [local go_sem] Oper.semAt_some

/-- What a round that goes on keeps: the blocks below n₀ that X does not name. -/
def KpS (X : Nat → Prop) (n₀ : Nat) (A B : World) : Prop := ∀ k, k < n₀ → ¬ X k → B.heap[k]? = A.heap[k]?
theorem KpS.refl (X : Nat → Prop) (n₀ : Nat) (A : World) : KpS X n₀ A A := fun _ _ _ => rfl
theorem KpS.trans {X : Nat → Prop} {n₀ : Nat} {A B C : World} (h : KpS X n₀ A B) (k : KpS X n₀ B C) : KpS X n₀ A C := fun i hi hx => (k i hi hx).trans (h i hi hx)
theorem kpS_b {X : Nat → Prop} {n₀ : Nat} {w : World} (hn : n₀ ≤ w.heap.size) (W : World) (l : Nat) (o o' : Obj) (hl : w.heap.size ≤ l) (h : W.heap[l]? = some o) (h1 : o.isCells = false) (h2 : o.isWalk = false) : KpS X n₀ W (W.putObj l o') := fun k hk _ =>
  (belowK_b hn W l o o' hl h h1 h2).block k hk

theorem KpS.of_below {X : Nat → Prop} {n₀ : Nat} {A B : World} (h : Below A.heap.size A B) (hn : n₀ ≤ A.heap.size) : KpS X n₀ A B := fun k hk _ => h.block k (by omega)
structure GrAt (W : World) (X : Nat → Prop) (n₀ Bs Bf b : Nat) (P : Pt) (fr : Int) : Prop where
  p : PaW W b P
  bs : W.cell? ⟨Bs, 0, none⟩ = some (.pointer (some ⟨b, 0, none⟩))
  bf : W.cell? ⟨Bf, 0, none⟩ = some (.int .i64 fr)
  lb : b < n₀
  ls : Bs < n₀
  lf : Bf < n₀
  xb : ¬ X b
  xs : ¬ X Bs
  xf : ¬ X Bf
theorem GrAt.kp {W W' : World} {X : Nat → Prop} {n₀ Bs Bf b : Nat} {P : Pt} {fr : Int} (h : GrAt W X n₀ Bs Bf b P fr) (k : KpS X n₀ W W') : GrAt W' X n₀ Bs Bf b P fr :=
  ⟨h.p.same (k b h.lb h.xb), (World.cell?_of_block (a := ⟨Bs, 0, none⟩) (k Bs h.ls h.xs)).trans h.bs, (World.cell?_of_block (a := ⟨Bf, 0, none⟩) (k Bf h.lf h.xf)).trans h.bf, h.lb, h.ls, h.lf, h.xb, h.xs, h.xf⟩

set_option maxRecDepth 100000 in
set_option maxHeartbeats 4000000 in
theorem greys1_neg (n : Nat) (hn : 1 ≤ n) (l Bs Bf n₀ b : Nat) (P : Pt) (fr : Int) (k0 : Nat) (X : Nat → Prop) (J Jx : List Nat → World → Prop)
    (hY : ∀ pre x W, J pre W → pre.length < (selFrom P.c 1 k0 P.n).length → YieldAt Fence.wide (n - 1) Try.prog l #[.int .i64 ((x : Nat) : Int)] W fun e W' =>
      (e = .returned (.bool true) ∧ J (pre ++ [x]) W' ∧ KpS X n₀ W W') ∨ (e = .returned (.bool false) ∧ Jx (pre ++ [x]) W'))
    (W : World) (hA : GrAt W X n₀ Bs Bf b P fr) (hneg : fr < 0) (hk0 : k0 = 0) (hfr : (k0 : Int) ≤ 9223372036854775807) (h0 : J [] W) :
    CallsIn Fence.wide n Try.prog 42 #[.func (.yield l) #[] #[], .pointer (some ⟨Bs, 0, none⟩), .pointer (some ⟨Bf, 0, none⟩)] W fun e W' => (∃ v, e = .returned v) ∧
      ((∃ ys, ys = selFrom P.c 1 k0 P.n ∧ J ys W') ∨ (∃ pre, pre <+: selFrom P.c 1 k0 P.n ∧ Jx pre W')) := by
  have hbs := hA.bs
  have hbf := hA.bf
  have hn256 := hA.p.ok.hi
  have HA := Lib.hid hA
  have HY := Lib.hid hY
  have H0 := Lib.hid h0
  obtain ⟨L, hL⟩ : ∃ L, selFrom P.c 1 k0 P.n = L := ⟨_, rfl⟩
  have HST : Hid ([] ++ selFrom P.c 1 k0 P.n = L) := by unfold Hid; rw [List.nil_append]; exact hL
  rw [hL] at HY
  rw [hL]
  clear hA hY h0 hL
  subst hk0
  refine callsIn_of_wp Try.func42 rfl trivial ?_ rfl
  simp only [Try.ntmps42, List.size_toArray, List.length_cons, List.length_nil, Nat.reduceAdd, Nat.reduceSub, Array.replicate_succ, Array.replicate_zero, List.push_toArray, List.append_toArray, List.nil_append, List.cons_append]
  gi_wp2_with (refine ⟨trivial, ?_⟩; gi_at_call 35; refine (callsIn_wide.2 (valid_yes _ _ _ HA.out.p)).mono ?_; rintro e w' ⟨rfl, rfl⟩)
  clear hbs hbf
  gi_loopw [4] (fun i wr => ∃ (k : Nat) (pre : List Nat), i = .int .i64 k ∧ (k : Int) ≤ 9223372036854775807 ∧ Hid (J pre wr) ∧ Hid (KpS X n₀ W wr) ∧ Hid (pre ++ selFrom P.c 1 k P.n = L)) (fun i _ => P.n - (intOf i).toNat)
  case atStart => exact ⟨0, [], rfl, hfr, H0.out, KpS.refl _ _ _, HST.out⟩
  case round =>
    obtain ⟨k, pre, rfl, hk63, HJ, HK, HP⟩ := hrel
    have HA2 := Lib.hid (HA.out.kp HK.out)
    have hbs2 := HA2.out.bs
    have hc0 := HA2.out.p.c0
    by_cases hlt : k < P.n
    · have hcs := HA2.out.p.cs (i := k) (by omega)
      have hp2 := HP.out
      rw [selFrom_step P.c 1 hlt] at hp2
      obtain ⟨x, ex⟩ : ∃ x, P.c k = x := ⟨_, rfl⟩
      rw [ex] at hcs hp2
      by_cases hx : x = 1
      · subst hx
        rw [if_pos rfl] at hp2
        have hYx := HY.out pre k _ HJ.out (by rw [← hp2]; simp)
        obtain ⟨fn, tmps, assign, body, hy, hR⟩ := hYx
        have HQ : Hid ((pre ++ [k]) ++ selFrom P.c 1 (k + 1) P.n = L) := by unfold Hid; rw [← hp2]; simp
        clear hp2 ex
        gi_wp2
        refine hR.mono ?_
        rintro e W3 (⟨rfl, hJ3, hk3⟩ | ⟨rfl, hJx3⟩)
        · have HJ4 := Lib.hid hJ3
          have HK4 := Lib.hid (HK.out.trans hk3)
          clear hJ3 hk3 hbs2 hc0 hy hcs
          gi_wp2
          go_roundw
          case rel => exact ⟨k + 1, _, by go_num, by omega, HJ4.out, HK4.out, HQ.out⟩
          case measure => simp [intOf]; omega
        · have HJ4 := Lib.hid hJx3
          clear hJx3 hbs2 hc0 hy hcs
          gi_wp2
          refine bodyPost_ret (results_none rfl _ _ _) rfl ?_
          exact ⟨⟨_, rfl⟩, .inr ⟨pre ++ [k], ⟨_, HQ.out⟩, HJ4.out⟩⟩
      · rw [if_neg hx, List.nil_append] at hp2
        have HQ := Lib.hid hp2
        have hxv : ((x : Int) == 1) = false := beq_eq_false_iff_ne.2 (by omega)
        clear hp2 ex hx
        gi_wp2
        refine ⟨fun _ h => (by cases h), ?_⟩
        gi_wp2
        go_roundw
        case rel => exact ⟨k + 1, pre, by go_num, by omega, HJ.out, HK.out, HQ.out⟩
        case measure => simp [intOf]; omega
    · have hp2 := HP.out
      rw [selFrom_done P.c 1 (by omega), List.append_nil] at hp2
      have HP2 := Lib.hid hp2
      clear hp2
      gi_wp2
      go_end0
      exact ⟨⟨_, rfl⟩, .inl ⟨_, HP2.out, HJ.out⟩⟩
set_option maxRecDepth 100000 in
set_option maxHeartbeats 4000000 in
theorem greys1_zero (n : Nat) (hn : 1 ≤ n) (l Bs Bf n₀ b : Nat) (P : Pt) (fr : Int) (k0 : Nat) (X : Nat → Prop) (J Jx : List Nat → World → Prop)
    (hY : ∀ pre x W, J pre W → pre.length < (selFrom P.c 1 k0 P.n).length → YieldAt Fence.wide (n - 1) Try.prog l #[.int .i64 ((x : Nat) : Int)] W fun e W' =>
      (e = .returned (.bool true) ∧ J (pre ++ [x]) W' ∧ KpS X n₀ W W') ∨ (e = .returned (.bool false) ∧ Jx (pre ++ [x]) W'))
    (W : World) (hA : GrAt W X n₀ Bs Bf b P fr) (hneg : fr = 0) (hk0 : k0 = 0) (hfr : (k0 : Int) ≤ 9223372036854775807) (h0 : J [] W) :
    CallsIn Fence.wide n Try.prog 42 #[.func (.yield l) #[] #[], .pointer (some ⟨Bs, 0, none⟩), .pointer (some ⟨Bf, 0, none⟩)] W fun e W' => (∃ v, e = .returned v) ∧
      ((∃ ys, ys = selFrom P.c 1 k0 P.n ∧ J ys W') ∨ (∃ pre, pre <+: selFrom P.c 1 k0 P.n ∧ Jx pre W')) := by
  have hbs := hA.bs
  have hbf := hA.bf
  have hn256 := hA.p.ok.hi
  have HA := Lib.hid hA
  have HY := Lib.hid hY
  have H0 := Lib.hid h0
  obtain ⟨L, hL⟩ : ∃ L, selFrom P.c 1 k0 P.n = L := ⟨_, rfl⟩
  have HST : Hid ([] ++ selFrom P.c 1 k0 P.n = L) := by unfold Hid; rw [List.nil_append]; exact hL
  rw [hL] at HY
  rw [hL]
  clear hA hY h0 hL
  subst hk0 hneg
  refine callsIn_of_wp Try.func42 rfl trivial ?_ rfl
  simp only [Try.ntmps42, List.size_toArray, List.length_cons, List.length_nil, Nat.reduceAdd, Nat.reduceSub, Array.replicate_succ, Array.replicate_zero, List.push_toArray, List.append_toArray, List.nil_append, List.cons_append]
  gi_wp2_with (refine ⟨trivial, ?_⟩; gi_at_call 35; refine (callsIn_wide.2 (valid_yes _ _ _ HA.out.p)).mono ?_; rintro e w' ⟨rfl, rfl⟩)
  clear hbs hbf
  gi_loopw [4] (fun i wr => ∃ (k : Nat) (pre : List Nat), i = .int .i64 k ∧ (k : Int) ≤ 9223372036854775807 ∧ Hid (J pre wr) ∧ Hid (KpS X n₀ W wr) ∧ Hid (pre ++ selFrom P.c 1 k P.n = L)) (fun i _ => P.n - (intOf i).toNat)
  case atStart => exact ⟨0, [], rfl, hfr, H0.out, KpS.refl _ _ _, HST.out⟩
  case round =>
    obtain ⟨k, pre, rfl, hk63, HJ, HK, HP⟩ := hrel
    have HA2 := Lib.hid (HA.out.kp HK.out)
    have hbs2 := HA2.out.bs
    have hc0 := HA2.out.p.c0
    by_cases hlt : k < P.n
    · have hcs := HA2.out.p.cs (i := k) (by omega)
      have hp2 := HP.out
      rw [selFrom_step P.c 1 hlt] at hp2
      obtain ⟨x, ex⟩ : ∃ x, P.c k = x := ⟨_, rfl⟩
      rw [ex] at hcs hp2
      by_cases hx : x = 1
      · subst hx
        rw [if_pos rfl] at hp2
        have hYx := HY.out pre k _ HJ.out (by rw [← hp2]; simp)
        obtain ⟨fn, tmps, assign, body, hy, hR⟩ := hYx
        have HQ : Hid ((pre ++ [k]) ++ selFrom P.c 1 (k + 1) P.n = L) := by unfold Hid; rw [← hp2]; simp
        clear hp2 ex
        gi_wp2
        refine hR.mono ?_
        rintro e W3 (⟨rfl, hJ3, hk3⟩ | ⟨rfl, hJx3⟩)
        · have HJ4 := Lib.hid hJ3
          have HK4 := Lib.hid (HK.out.trans hk3)
          clear hJ3 hk3 hbs2 hc0 hy hcs
          gi_wp2
          go_roundw
          case rel => exact ⟨k + 1, _, by go_num, by omega, HJ4.out, HK4.out, HQ.out⟩
          case measure => simp [intOf]; omega
        · have HJ4 := Lib.hid hJx3
          clear hJx3 hbs2 hc0 hy hcs
          gi_wp2
          refine bodyPost_ret (results_none rfl _ _ _) rfl ?_
          exact ⟨⟨_, rfl⟩, .inr ⟨pre ++ [k], ⟨_, HQ.out⟩, HJ4.out⟩⟩
      · rw [if_neg hx, List.nil_append] at hp2
        have HQ := Lib.hid hp2
        have hxv : ((x : Int) == 1) = false := beq_eq_false_iff_ne.2 (by omega)
        clear hp2 ex hx
        gi_wp2
        refine ⟨fun _ h => (by cases h), ?_⟩
        gi_wp2
        go_roundw
        case rel => exact ⟨k + 1, pre, by go_num, by omega, HJ.out, HK.out, HQ.out⟩
        case measure => simp [intOf]; omega
    · have hp2 := HP.out
      rw [selFrom_done P.c 1 (by omega), List.append_nil] at hp2
      have HP2 := Lib.hid hp2
      clear hp2
      gi_wp2
      go_end0
      exact ⟨⟨_, rfl⟩, .inl ⟨_, HP2.out, HJ.out⟩⟩
set_option maxRecDepth 100000 in
set_option maxHeartbeats 4000000 in
theorem greys1_pos (n : Nat) (hn : 1 ≤ n) (l Bs Bf n₀ b : Nat) (P : Pt) (fr : Int) (k0 : Nat) (X : Nat → Prop) (J Jx : List Nat → World → Prop)
    (hY : ∀ pre x W, J pre W → pre.length < (selFrom P.c 1 k0 P.n).length → YieldAt Fence.wide (n - 1) Try.prog l #[.int .i64 ((x : Nat) : Int)] W fun e W' =>
      (e = .returned (.bool true) ∧ J (pre ++ [x]) W' ∧ KpS X n₀ W W') ∨ (e = .returned (.bool false) ∧ Jx (pre ++ [x]) W'))
    (W : World) (hA : GrAt W X n₀ Bs Bf b P fr) (hneg : fr = k0) (hk0 : 0 < k0) (hfr : (k0 : Int) ≤ 9223372036854775807) (h0 : J [] W) :
    CallsIn Fence.wide n Try.prog 42 #[.func (.yield l) #[] #[], .pointer (some ⟨Bs, 0, none⟩), .pointer (some ⟨Bf, 0, none⟩)] W fun e W' => (∃ v, e = .returned v) ∧
      ((∃ ys, ys = selFrom P.c 1 k0 P.n ∧ J ys W') ∨ (∃ pre, pre <+: selFrom P.c 1 k0 P.n ∧ Jx pre W')) := by
  have hbs := hA.bs
  have hbf := hA.bf
  have hn256 := hA.p.ok.hi
  have HA := Lib.hid hA
  have HY := Lib.hid hY
  have H0 := Lib.hid h0
  obtain ⟨L, hL⟩ : ∃ L, selFrom P.c 1 k0 P.n = L := ⟨_, rfl⟩
  have HST : Hid ([] ++ selFrom P.c 1 k0 P.n = L) := by unfold Hid; rw [List.nil_append]; exact hL
  rw [hL] at HY
  rw [hL]
  clear hA hY h0 hL
  subst hneg
  refine callsIn_of_wp Try.func42 rfl trivial ?_ rfl
  simp only [Try.ntmps42, List.size_toArray, List.length_cons, List.length_nil, Nat.reduceAdd, Nat.reduceSub, Array.replicate_succ, Array.replicate_zero, List.push_toArray, List.append_toArray, List.nil_append, List.cons_append]
  gi_wp2_with (refine ⟨trivial, ?_⟩; gi_at_call 35; refine (callsIn_wide.2 (valid_yes _ _ _ HA.out.p)).mono ?_; rintro e w' ⟨rfl, rfl⟩)
  clear hbs hbf
  gi_loopw [4] (fun i wr => ∃ (k : Nat) (pre : List Nat), i = .int .i64 k ∧ (k : Int) ≤ 9223372036854775807 ∧ Hid (J pre wr) ∧ Hid (KpS X n₀ W wr) ∧ Hid (pre ++ selFrom P.c 1 k P.n = L)) (fun i _ => P.n - (intOf i).toNat)
  case atStart => exact ⟨k0, [], rfl, hfr, H0.out, KpS.refl _ _ _, HST.out⟩
  case round =>
    obtain ⟨k, pre, rfl, hk63, HJ, HK, HP⟩ := hrel
    have HA2 := Lib.hid (HA.out.kp HK.out)
    have hbs2 := HA2.out.bs
    have hc0 := HA2.out.p.c0
    by_cases hlt : k < P.n
    · have hcs := HA2.out.p.cs (i := k) (by omega)
      have hp2 := HP.out
      rw [selFrom_step P.c 1 hlt] at hp2
      obtain ⟨x, ex⟩ : ∃ x, P.c k = x := ⟨_, rfl⟩
      rw [ex] at hcs hp2
      by_cases hx : x = 1
      · subst hx
        rw [if_pos rfl] at hp2
        have hYx := HY.out pre k _ HJ.out (by rw [← hp2]; simp)
        obtain ⟨fn, tmps, assign, body, hy, hR⟩ := hYx
        have HQ : Hid ((pre ++ [k]) ++ selFrom P.c 1 (k + 1) P.n = L) := by unfold Hid; rw [← hp2]; simp
        clear hp2 ex
        gi_wp2
        refine hR.mono ?_
        rintro e W3 (⟨rfl, hJ3, hk3⟩ | ⟨rfl, hJx3⟩)
        · have HJ4 := Lib.hid hJ3
          have HK4 := Lib.hid (HK.out.trans hk3)
          clear hJ3 hk3 hbs2 hc0 hy hcs
          gi_wp2
          go_roundw
          case rel => exact ⟨k + 1, _, by go_num, by omega, HJ4.out, HK4.out, HQ.out⟩
          case measure => simp [intOf]; omega
        · have HJ4 := Lib.hid hJx3
          clear hJx3 hbs2 hc0 hy hcs
          gi_wp2
          refine bodyPost_ret (results_none rfl _ _ _) rfl ?_
          exact ⟨⟨_, rfl⟩, .inr ⟨pre ++ [k], ⟨_, HQ.out⟩, HJ4.out⟩⟩
      · rw [if_neg hx, List.nil_append] at hp2
        have HQ := Lib.hid hp2
        have hxv : ((x : Int) == 1) = false := beq_eq_false_iff_ne.2 (by omega)
        clear hp2 ex hx
        gi_wp2
        refine ⟨fun _ h => (by cases h), ?_⟩
        gi_wp2
        go_roundw
        case rel => exact ⟨k + 1, pre, by go_num, by omega, HJ.out, HK.out, HQ.out⟩
        case measure => simp [intOf]; omega
    · have hp2 := HP.out
      rw [selFrom_done P.c 1 (by omega), List.append_nil] at hp2
      have HP2 := Lib.hid hp2
      clear hp2
      gi_wp2
      go_end0
      exact ⟨⟨_, rfl⟩, .inl ⟨_, HP2.out, HJ.out⟩⟩
theorem greys1_in (n : Nat) (hn : 1 ≤ n) (l Bs Bf n₀ b : Nat) (P : Pt) (fr : Int) (X : Nat → Prop) (J Jx : List Nat → World → Prop)
    (hY : ∀ pre x W, J pre W → pre.length < (P.greys fr).length → YieldAt Fence.wide (n - 1) Try.prog l #[.int .i64 ((x : Nat) : Int)] W fun e W' =>
      (e = .returned (.bool true) ∧ J (pre ++ [x]) W' ∧ KpS X n₀ W W') ∨ (e = .returned (.bool false) ∧ Jx (pre ++ [x]) W'))
    (W : World) (hA : GrAt W X n₀ Bs Bf b P fr) (hfr : fr ≤ 9223372036854775807) (h0 : J [] W) :
    CallsIn Fence.wide n Try.prog 42 #[.func (.yield l) #[] #[], .pointer (some ⟨Bs, 0, none⟩), .pointer (some ⟨Bf, 0, none⟩)] W fun e W' => (∃ v, e = .returned v) ∧
      ((∃ ys, ys = P.greys fr ∧ J ys W') ∨ (∃ pre, pre <+: P.greys fr ∧ Jx pre W')) := by
  unfold Pt.greys at hY ⊢
  rcases Int.lt_trichotomy fr 0 with h | h | h
  · exact greys1_neg n hn l Bs Bf n₀ b P fr fr.toNat X J Jx hY W hA h (by omega) (by omega) h0
  · exact greys1_zero n hn l Bs Bf n₀ b P fr fr.toNat X J Jx hY W hA h (by omega) (by omega) h0
  · exact greys1_pos n hn l Bs Bf n₀ b P fr fr.toNat X J Jx hY W hA (by omega) (by omega) (by omega) h0

theorem greys_ok (a : Option Addr) (fr : Int) (w : World) : Calls Try.prog 40 #[.pointer a, .int .i64 fr] w fun e w' => e = .returned (.func (.func 42) #[] #[.pointer (some ⟨w.heap.size, 0, none⟩), .pointer (some ⟨w.heap.size + 1, 0, none⟩)]) ∧ (w.alloc (.cells #[.pointer a] 24)).alloc (.cells #[.int .i64 fr] 3) = w' := by
  go_enter Try.func40, Try.ntmps40
  go_wp2
  go_ret
  exact ⟨rfl, rfl⟩
/-- What the two boxes hold that greys has laid. -/
theorem boxes (w : World) (a : Option Addr) (fr : Int) {w2 : World} (h : (w.alloc (.cells #[.pointer a] 24)).alloc (.cells #[.int .i64 fr] 3) = w2) :
    w2.cell? ⟨w.heap.size, 0, none⟩ = some (.pointer a) ∧ w2.cell? ⟨w.heap.size + 1, 0, none⟩ = some (.int .i64 fr) ∧ w2.heap.size = w.heap.size + 2 ∧ Below w.heap.size w w2 := by
  subst h
  have b1 := (Bk.new w 24 #[.pointer a]).same (w' := (w.alloc (.cells #[.pointer a] 24)).alloc (.cells #[.int .i64 fr] 3)) (Below.heap_alloc _ _ _ (by simp))
  have b2 := Bk.new (w.alloc (.cells #[.pointer a] 24)) 3 #[.int .i64 fr]
  rw [World.size_alloc] at b2
  exact ⟨b1.cell 0, b2.cell 0, by simp, ((Below.refl _ w).alloc (Nat.le_refl _) _).alloc (by simp) _⟩

theorem greys_stops (n : Nat) (hn : 1 ≤ n) (Bs Bf n₀ b : Nat) (P : Pt) (fr : Int) (X : Nat → Prop) (w : World) (hA : GrAt w X n₀ Bs Bf b P fr) (hfr : fr ≤ 9223372036854775807) (hn₀ : n₀ ≤ w.heap.size) :
    SeqStopsK Fence.wide n Try.prog 42 #[.pointer (some ⟨Bs, 0, none⟩), .pointer (some ⟨Bf, 0, none⟩)] (fun x : Nat => #[Value.int .i64 ((x : Nat) : Int)]) (KpS X n₀) (fun ys => ys = P.greys fr) (fun pre => pre <+: P.greys fr) (P.greys fr).length w := fun l J Jx W hW _ _ hY h0 =>
  greys1_in n hn l Bs Bf n₀ b P fr X J Jx hY W (hA.kp (KpS.of_below hW hn₀)) hfr h0
theorem stops_inv (n : Nat) (hn : 1 ≤ n) (Bs Bf : Nat) (v : Option Addr) (Kp : World → World → Prop) (w : World) (hv : Inv w v) (hbs : w.cell? ⟨Bs, 0, none⟩ = some (.pointer v)) :
    SeqStopsK Fence.wide n Try.prog 42 #[.pointer (some ⟨Bs, 0, none⟩), .pointer (some ⟨Bf, 0, none⟩)] (fun x : Nat => #[Value.int .i64 ((x : Nat) : Int)]) Kp (fun ys => ys = []) (fun _ => False) 0 w := fun l J Jx W hW _ _ hY h0 => by
  have hbs2 := (hW.cell (p := ⟨Bs, 0, none⟩) (World.block_lt_of_cell? _ _ hbs)).trans hbs
  have HV := Lib.hid (hv.below hW)
  have H0 := Lib.hid h0
  clear hv hbs h0 hY hW
  refine callsIn_of_wp Try.func42 rfl trivial ?_ rfl
  simp only [Try.ntmps42, List.size_toArray, List.length_cons, List.length_nil, Nat.reduceAdd, Nat.reduceSub, Array.replicate_succ, Array.replicate_zero, List.push_toArray, List.append_toArray, List.nil_append, List.cons_append]
  gi_wp2_with (refine ⟨trivial, ?_⟩; gi_at_call 35; refine (callsIn_wide.2 (valid_no _ _ HV.out)).mono ?_; rintro e w' ⟨rfl, rfl⟩)
  refine bodyPost_ret (results_none rfl _ _ _) rfl ?_
  exact ⟨⟨_, rfl⟩, .inl ⟨_, rfl, H0.out⟩⟩
/-! ### Grey -/
def GreyV (L : List Nat) (w : World) (e : Ending) (w' : World) : Prop := e = .returned (.tuple #[.int .i64 ((L.headD 0 : Nat) : Int), .bool !L.isEmpty]) ∧ Below w.heap.size w w'
set_option maxRecDepth 100000 in
set_option maxHeartbeats 2000000 in
theorem grey_of (a : Option Addr) (fr : Int) (L : List Nat) (Sp : List Nat → Prop) (N : Nat) (hSp : ∀ pre, Sp pre → pre <+: L) (w : World)
    (hseq : ∀ w2, w2.heap.size = w.heap.size + 4 → Below w.heap.size w w2 → w2.cell? ⟨w.heap.size + 2, 0, none⟩ = some (.pointer a) → w2.cell? ⟨w.heap.size + 3, 0, none⟩ = some (.int .i64 fr) →
      SeqStopsK Fence.wide 2 Try.prog 42 #[.pointer (some ⟨w.heap.size + 2, 0, none⟩), .pointer (some ⟨w.heap.size + 3, 0, none⟩)] (fun x : Nat => #[Value.int .i64 ((x : Nat) : Int)]) (KpS (fun _ => False) (w.heap.size + 4)) (fun ys => ys = L) Sp N w2) :
    Calls Try.prog 26 #[.pointer a, .int .i64 fr] w (GreyV L w) := by
  have HSEQ := Lib.hid hseq
  have HSP := Lib.hid hSp
  clear hseq hSp
  refine (callsIn_wide (n := 3)).1 ?_
  refine callsIn_of_wp_marks Try.func26 rfl trivial ?_ rfl
  simp only [Try.ntmps26, List.size_toArray, List.length_cons, List.length_nil, Nat.reduceAdd, Nat.reduceSub, Array.replicate_succ, Array.replicate_zero, List.push_toArray, List.append_toArray, List.nil_append, List.cons_append]
  gi_wp2_with (refine ⟨trivial, ?_⟩; gi_at_call 40; refine (callsIn_wide.2 (greys_ok _ _ _)).mono ?_; rintro e w' ⟨rfl, rfl⟩)
  have bO := Boxed.new w 3 (.int .i64 0)
  have bP := Boxed.new (w.alloc (.cells #[.int .i64 0] 3)) 4 (.bool false)
  rw [World.size_alloc] at bP
  obtain ⟨w2, hw2⟩ : ∃ w2, (((w.alloc (.cells #[.int .i64 0] 3)).alloc (.cells #[.bool false] 4)).alloc (.cells #[.pointer a] 24)).alloc (.cells #[.int .i64 fr] 3) = w2 := ⟨_, rfl⟩
  obtain ⟨hx1, hx2, hx3, hx4⟩ := boxes ((w.alloc (.cells #[.int .i64 0] 3)).alloc (.cells #[.bool false] 4)) _ _ hw2
  rw [World.size_alloc, World.size_alloc] at hx1 hx2 hx3 hx4
  have hsz : w2.heap.size = w.heap.size + 4 := hx3
  have hB0 : Below w.heap.size w w2 := (((Below.refl _ w).alloc (Nat.le_refl _) _).alloc (by simp) _).trans (hx4.mono (by omega))
  have bO2 : Boxed w2 w.heap.size 3 (.int .i64 0) := by rw [← hw2]; exact ((bO.alloc _).alloc _).alloc _
  have bP2 : Boxed w2 (w.heap.size + 1) 4 (.bool false) := by rw [← hw2]; exact (bP.alloc _).alloc _
  rw [hw2]
  refine wpIn_rangeFunc_ownG rfl (by decide) (gf := 42) (lb := #[.pointer (some ⟨w.heap.size + 2, 0, none⟩), .pointer (some ⟨w.heap.size + 3, 0, none⟩)]) rfl trivial (enters_of Try.func42 (by kernel_rfl) rfl)
    (HSEQ.out w2 hsz hB0 hx1 hx2) KpS.trans (kpS_b (by omega)) (Below.refl _ _) (fun _ => rfl)
    (fun pre W => (pre = [] ∧ W.cell? ⟨w.heap.size, 0, none⟩ = some (.int .i64 0) ∧ W.frozen? ⟨w.heap.size, 0, none⟩ = false ∧ W.cell? ⟨w.heap.size + 1, 0, none⟩ = some (.bool false) ∧ W.frozen? ⟨w.heap.size + 1, 0, none⟩ = false) ∧ Below w.heap.size w W)
    (fun c pre W => (c = .ret ∧ ∃ x : Nat, pre = [x] ∧ W.cell? ⟨w.heap.size, 0, none⟩ = some (.int .i64 ((x : Nat) : Int)) ∧ W.cell? ⟨w.heap.size + 1, 0, none⟩ = some (.bool true)) ∧ Below w.heap.size w W)
    (OwnFrom.and (Own.from (fun s A B row hs hg hr => ⟨hs.1, cell_kept hs.2.1 hg hr, (frozen_kept hs.2.1 hg hr).trans hs.2.2.1, cell_kept hs.2.2.2.1 hg hr, (frozen_kept hs.2.2.2.1 hg hr).trans hs.2.2.2.2⟩) _) (ownFrom_below (Nat.le_refl _) (by omega)))
    (fun c => OwnFrom.and (Own.from (fun s A B row hs hg hr => by obtain ⟨hc, x, e1, e2, e3⟩ := hs; exact ⟨hc, x, e1, cell_kept e2 hg hr, cell_kept e3 hg hr⟩) _) (ownFrom_below (Nat.le_refl _) (by omega)))
    ⟨⟨rfl, bO2.cell, bO2.frozen, bP2.cell, bP2.frozen⟩, hB0⟩
    (fun x => { tmps := #[.pointer a, .int .i64 fr, undef, undef, .pointer (some ⟨w.heap.size, 0, none⟩), .pointer (some ⟨w.heap.size + 1, 0, none⟩), .int .i64 ((x : Nat) : Int), .pointer a, .int .i64 fr, .func (.func 42) #[] #[.pointer (some ⟨w.heap.size + 2, 0, none⟩), .pointer (some ⟨w.heap.size + 3, 0, none⟩)], .int .i64 ((x : Nat) : Int), undef], defers := [] }) ?assign ?body ?done ?stop
  case assign =>
    intro l x W K hK
    gi_wp2
    exact hK
  case body =>
    rintro l pre x W ⟨⟨rfl, hc, hf, hc2, hf2⟩, hB⟩ _
    gi_wp2
    exact ⟨((KeepsOthers.setCell _ _ _).trans (KeepsOthers.setCell _ _ _)).from _, ⟨rfl, x, rfl, by rw [World.cell?_setCell_other _ _ _ _ (by intro e; injection e with e; omega)]; exact World.cell?_setCell_same' _ _ _ (by rw [hc]; rfl), World.cell?_setCell_same' _ _ _ (by rw [World.cell?_setCell_other _ _ _ _ (by intro e; injection e with e; omega), hc2]; rfl)⟩, (hB.setCell (p := ⟨w.heap.size, 0, none⟩) (Nat.le_refl _) _).setCell (p := ⟨w.heap.size + 1, 0, none⟩) (by simp) _⟩
  case done =>
    rintro D ys W hD rfl ⟨⟨rfl, hc, hf, hc2, hf2⟩, hB⟩ hK
    gi_wp2
    have hK' := ((KeepsOthers.setCell W ⟨w.heap.size, 0, none⟩ (.int .i64 0)).trans (KeepsOthers.setCell _ ⟨w.heap.size + 1, 0, none⟩ (.bool false))).same D _ hK rfl
    have ha := World.cell?_setCell_same' W ⟨w.heap.size, 0, none⟩ (.int .i64 0) (by rw [hc]; rfl)
    have ha2 : ((W.setCell ⟨w.heap.size, 0, none⟩ (.int .i64 0)).setCell ⟨w.heap.size + 1, 0, none⟩ (.bool false)).cell? ⟨w.heap.size, 0, none⟩ = some (.int .i64 0) := by
      rw [World.cell?_setCell_other _ _ _ _ (by intro e; injection e with e; omega)]; exact ha
    have hb : ((W.setCell ⟨w.heap.size, 0, none⟩ (.int .i64 0)).setCell ⟨w.heap.size + 1, 0, none⟩ (.bool false)).cell? ⟨w.heap.size + 1, 0, none⟩ = some (.bool false) :=
      World.cell?_setCell_same' _ _ _ (by rw [World.cell?_setCell_other _ _ _ _ (by intro e; injection e with e; omega), hc2]; rfl)
    have hc5 := cell_kept ha2 (grownBy_putObj' _ D (.deferred none)) (fun r e => by cases e; exact ⟨_, hK', rfl⟩)
    have hc6 := cell_kept hb (grownBy_putObj' _ D (.deferred none)) (fun r e => by cases e; exact ⟨_, hK', rfl⟩)
    refine ⟨by simp, .inl ⟨_, _, rfl, run_takeDeferred hK', ?_⟩⟩
    refine ⟨.tuple #[.int .i64 0, .bool false], ?_, rfl, ((hB.setCell (p := ⟨w.heap.size, 0, none⟩) (Nat.le_refl _) _).setCell (p := ⟨w.heap.size + 1, 0, none⟩) (by simp) _).trans (belowK_b (w := w) (Nat.le_refl _) _ D _ _ (by omega) hK' rfl rfl)⟩
    simp [results, Try.f26, go_sem, hc5, hc6]
  case stop =>
    rintro D c pre W hD hpre ⟨⟨rfl, x, rfl, hc, hc2⟩, hB⟩ hK
    have hL := HSP.out _ hpre
    obtain ⟨r, rfl⟩ := hL
    gi_wp2
    have hc5 := cell_kept hc (grownBy_putObj' _ D (.deferred none)) (fun r e => by cases e; exact ⟨_, hK, rfl⟩)
    have hc6 := cell_kept hc2 (grownBy_putObj' _ D (.deferred none)) (fun r e => by cases e; exact ⟨_, hK, rfl⟩)
    refine ⟨by simp, .inl ⟨_, _, rfl, run_takeDeferred hK, ?_⟩⟩
    refine ⟨.tuple #[.int .i64 ((x : Nat) : Int), .bool true], ?_, rfl, hB.trans (belowK_b (w := w) (Nat.le_refl _) W D _ _ (by omega) hK rfl rfl)⟩
    simp [results, Try.f26, go_sem, hc5, hc6]
theorem grey_ok (b : Nat) (P : Pt) (fr : Int) (hfr : fr ≤ 9223372036854775807) (w : World) (h : PaW w b P) : Calls Try.prog 26 #[.pointer (some ⟨b, 0, none⟩), .int .i64 fr] w (GreyV (P.greys fr) w) := by
  have hlb := h.bt
  refine grey_of _ fr (P.greys fr) (fun pre => pre <+: P.greys fr) (P.greys fr).length (fun _ h => h) w fun w2 hsz hB0 hx1 hx2 => ?_
  exact greys_stops 2 (by decide) (w.heap.size + 2) (w.heap.size + 3) (w.heap.size + 4) b P fr _ w2 ⟨h.below hB0, hx1, hx2, by omega, by omega, by omega, id, id, id⟩ hfr (by omega)
theorem grey_inv (v : Option Addr) (fr : Int) (w : World) (h : Inv w v) : Calls Try.prog 26 #[.pointer v, .int .i64 fr] w (GreyV [] w) :=
  grey_of v fr [] (fun _ => False) 0 (fun _ h => h.elim) w fun w2 hsz hB0 hx1 hx2 => stops_inv 2 (by decide) _ _ v _ w2 (h.below hB0) hx1
end Go.Proofs.Ythcpmcdgojgdlaa
