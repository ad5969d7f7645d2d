/- The range-function filled: it yields the fields that are not empty, in order, whatever the loop's body does. -/
import Derived.RangeFuncNested
import Derived.RangeFuncBound
import Derived.RangeFuncBox
import Derived.RangeFuncCalls
import Derived.RangeFuncLeaves
import Derived.Shelf.Abstract
import Derived.Shelf.RegionOpen
import Derived.OwnWalkIn
import Derived.TacticsInMore
import Derived.LoopNIn
import Derived.LoopIn
import Derived.Maps.AppendAt
import Derived.Test.YtfnhkapbfgofkaaNa
namespace Go.Proofs.Ytfnhkapbfgofkaa
open Go.RowKit Go.Shelf
attribute [local go_sem] Oper.semAt_some

def encF (o : Ob) : Nat → Array Value := fun j => #[.int .i64 j, rfv (o.fld j)]
def selF (o : Ob) (k : Nat) : List Nat := (List.range' k (4 - k)).filter fun j => !noneB (o.fld j)
theorem selF_step (o : Ob) {k : Nat} (h : k < 4) : selF o k = (if noneB (o.fld k) = true then [] else [k]) ++ selF o (k + 1) := by
  unfold selF
  have e : 4 - k = (4 - (k + 1)) + 1 := by omega
  rw [e, List.range'_succ, List.filter_cons]
  cases noneB (o.fld k) <;> simp
theorem selF_done (o : Ob) {k : Nat} (h : 4 ≤ k) : selF o k = [] := by
  unfold selF
  rw [show 4 - k = 0 by omega]
  rfl
theorem selF_len (o : Ob) : (selF o 0).length ≤ 4 := by
  unfold selF
  exact Nat.le_trans (List.length_filter_le _ _) (by simp)

theorem filled_ok (o : Ob) (w : World) : Calls Try.prog 74 #[obv o] w fun e w' => e = .returned (.func (.func 81) #[] #[.pointer (some ⟨w.heap.size, 0, none⟩)]) ∧ w.alloc (.cells (obc o) 53) = w' := by
  unfold obv obc
  go_enter Try.func74, Try.ntmps74
  go_wp2
  go_ret
  exact ⟨rfl, rfl⟩

theorem index_run (o : Ob) (k : Nat) (hk : k < 4) (W : World) :
    (Instr.index 51 (.agg #[.int .i64 o.a.1, .int .u32 o.a.2, .int .i64 o.b.1, .int .u32 o.b.2, .int .i64 o.c.1, .int .u32 o.c.2, .int .i64 o.d.1, .int .u32 o.d.2]) (.int .i64 (k : Int))).run Try.prog W = .ok (.agg #[.int .i64 (o.fld k).1, .int .u32 (o.fld k).2]) W := by
  have hu := Try.underlying51
  match k, hk with
  | 0, _ => simp [Instr.index, asIntOf, run_underlying hu, go_sem]; exact ⟨rfl, rfl⟩
  | 1, _ => simp [Instr.index, asIntOf, run_underlying hu, go_sem]; exact ⟨rfl, rfl⟩
  | 2, _ => simp [Instr.index, asIntOf, run_underlying hu, go_sem]; exact ⟨rfl, rfl⟩
  | 3, _ => simp [Instr.index, asIntOf, run_underlying hu, go_sem]; exact ⟨rfl, rfl⟩
set_option maxRecDepth 100000 in
set_option maxHeartbeats 4000000 in
theorem fill1_in (n : Nat) (hn : 1 ≤ n) (l Bs B0 : Nat) (o : Ob) (J Jx : List Nat → World → Prop) (hJ : AbidesFrom B0 J)
    (hY : ∀ pre x W, J pre W → pre.length < (selF o 0).length → YieldAt Fence.wide (n - 1) Try.prog l (encF o x) W fun e W' =>
      (e = .returned (.bool true) ∧ J (pre ++ [x]) W') ∨ (e = .returned (.bool false) ∧ Jx (pre ++ [x]) W'))
    (W : World) (hA : Bk W Bs 53 (obc o)) (h0 : J [] W) :
    CallsIn Fence.wide n Try.prog 81 #[.func (.yield l) #[] #[], .pointer (some ⟨Bs, 0, none⟩)] W fun e W' => (∃ v, e = .returned v) ∧
      ((∃ ys, ys = selF o 0 ∧ J ys W') ∨ (∃ pre, pre <+: selF o 0 ∧ Jx pre W')) := by
  have HY := Lib.hid hY
  have H0 := Lib.hid h0
  have HJB : Hid (∀ (pre : List Nat) (W W' : World), J pre W → Below W.heap.size W W' → J pre W') := fun pre W W' h hB => hJ _ _ _ none h ⟨hB.os, hB.tape, hB.output, hB.size, fun k hk _ => hB.block k hk⟩ (fun r e => by cases e)
  have c1 := hA.cell 1
  have c2 := hA.cell 2
  have c3 := hA.cell 3
  have c4 := hA.cell 4
  have c5 := hA.cell 5
  have c6 := hA.cell 6
  have c7 := hA.cell 7
  have c8 := hA.cell 8
  obtain ⟨on, ⟨s0, g0⟩, ⟨s1, g1⟩, ⟨s2, g2⟩, ⟨s3, g3⟩, oh⟩ := o
  simp only [obc, List.getElem?_toArray, List.getElem?_cons_zero, List.getElem?_cons_succ] at c1 c2 c3 c4 c5 c6 c7 c8
  obtain ⟨o, ho⟩ : ∃ o : Ob, o = ⟨on, (s0, g0), (s1, g1), (s2, g2), (s3, g3), oh⟩ := ⟨_, rfl⟩
  rw [← ho] at HY ⊢
  have HIX : Hid (∀ (k : Nat) (hk : k < 4) (W : World), (Instr.index 51 (.agg #[.int .i64 s0, .int .u32 g0, .int .i64 s1, .int .u32 g1, .int .i64 s2, .int .u32 g2, .int .i64 s3, .int .u32 g3]) (.int .i64 (k : Int))).run Try.prog W = .ok (.agg #[.int .i64 (o.fld k).1, .int .u32 (o.fld k).2]) W) := by
    unfold Hid; subst ho; exact index_run ⟨on, (s0, g0), (s1, g1), (s2, g2), (s3, g3), oh⟩
  clear hA hY h0 hJ ho
  refine callsIn_of_wp Try.func81 rfl trivial ?_ rfl
  simp only [Try.ntmps81, List.size_toArray, List.length_cons, List.length_nil, Nat.reduceAdd, Nat.reduceSub, Array.replicate_succ, Array.replicate_zero, List.push_toArray, List.append_toArray, List.nil_append, List.cons_append]
  gi_wp2
  clear c1 c2 c3 c4 c5 c6 c7 c8
  gi_loopw [7] (fun i wr => ∃ (k : Nat) (pre : List Nat), k ≤ 4 ∧ i = .int .i64 k ∧ Hid (J pre wr) ∧ Hid (pre ++ selF o k = selF o 0)) (fun i _ => 4 - (intOf i).toNat)
  case atStart => exact ⟨0, [], by omega, rfl, H0.out, rfl⟩
  case round =>
    obtain ⟨k, pre, hk4, rfl, HJ, HP⟩ := hrel
    by_cases hlt : k < 4
    · have hp2 := HP.out
      rw [selF_step o hlt] at hp2
      obtain ⟨⟨s, g⟩, hsg⟩ : ∃ r : Rf, o.fld k = r := ⟨_, rfl⟩
      rw [hsg] at hp2
      have HN := Lib.hid (isNone_ok (s, g))
      have hix := HIX.out k hlt
      rw [hsg] at hix
      simp only at hix
      have HSG := Lib.hid hsg
      clear hsg
      cases hb : noneB (s, g) with
      | true =>
        rw [hb] at HN hp2
        rw [if_pos rfl, List.nil_append] at hp2
        have HQ := Lib.hid hp2
        clear hp2 hb
        gi_wp2_with fail
        refine ⟨trivial, ?_⟩
        gi_at_call 78
        refine (callsIn_wide.2 (HN.out _)).mono ?_
        rintro e w1 ⟨rfl, hb1⟩
        have HJ1 := Lib.hid (HJB.out pre _ _ HJ.out (bel2 ((Below.refl _ wr).alloc (Nat.le_refl _) _) hb1))
        clear hb1
        gi_wp2
        refine ⟨fun _ h => (by cases h), ?_⟩
        gi_wp2
        go_roundw
        case rel => exact ⟨k + 1, pre, by omega, by go_num, HJ1.out, HQ.out⟩
        case measure => simp [intOf]; omega
      | false =>
        rw [hb] at HN hp2
        rw [if_neg (by decide)] at hp2
        have HQ : Hid ((pre ++ [k]) ++ selF o (k + 1) = selF o 0) := by unfold Hid; rw [← hp2]; simp
        have HL : Hid (pre.length < (selF o 0).length) := by unfold Hid; rw [← hp2]; simp
        clear hp2 hb
        gi_wp2_with fail
        refine ⟨trivial, ?_⟩
        gi_at_call 78
        refine (callsIn_wide.2 (HN.out _)).mono ?_
        rintro e w1 ⟨rfl, hb1⟩
        have hJ1 := HJB.out pre _ _ HJ.out (bel2 ((Below.refl _ wr).alloc (Nat.le_refl _) _) hb1)
        have hYx := HY.out pre k _ hJ1 HL.out
        unfold encF rfv rfc at hYx
        rw [HSG.out] at hYx
        obtain ⟨fn, tmps, assign, body, hy, hR⟩ := hYx
        have kc := bcell hb1
        have c0 : w1.cell? ⟨wr.heap.size, 0, none⟩ = some (.int .i64 s) := by rw [kc.1 _ _ (by simp)]; go_simp
        have c1 : w1.cell? ⟨wr.heap.size, 1, none⟩ = some (.int .u32 g) := by rw [kc.1 _ _ (by simp)]; go_simp
        clear hJ1 hb1 kc
        simp only at hy hR
        gi_wp2
        refine hR.mono ?_
        rintro e W3 (⟨rfl, hJ3⟩ | ⟨rfl, hJx3⟩)
        · have HJ4 := Lib.hid hJ3
          clear hJ3 hy c0 c1 hR
          gi_wp2
          go_roundw
          case rel => exact ⟨k + 1, _, by omega, by go_num, HJ4.out, HQ.out⟩
          case measure => simp [intOf]; omega
        · have HJ4 := Lib.hid hJx3
          clear hJx3 hy c0 c1 hR
          gi_wp2
          refine bodyPost_ret (results_none rfl _ _ _) rfl ?_
          exact ⟨⟨_, rfl⟩, .inr ⟨pre ++ [k], ⟨_, HQ.out⟩, HJ4.out⟩⟩
    · have hp2 := HP.out
      rw [selF_done o (by omega), List.append_nil] at hp2
      have HP2 := Lib.hid hp2
      clear hp2
      obtain rfl : k = 4 := by omega
      gi_wp2
      go_end0
      exact ⟨⟨_, rfl⟩, .inl ⟨_, HP2.out, HJ.out⟩⟩
theorem fill_stops (n : Nat) (hn : 1 ≤ n) (Bs : Nat) (o : Ob) (w : World) (hA : Bk w Bs 53 (obc o)) :
    SeqStopsK Fence.wide n Try.prog 81 #[.pointer (some ⟨Bs, 0, none⟩)] (encF o) (fun _ _ => True) (fun ys => ys = selF o 0) (fun pre => pre <+: selF o 0) (selF o 0).length w := fun l J Jx W hW hJ _ hY h0 =>
  fill1_in n hn l Bs W.heap.size o J Jx hJ (fun pre x W h1 h2 => by
    obtain ⟨fn, tmps, assign, body, hy, hR⟩ := hY pre x W h1 h2
    refine ⟨fn, tmps, assign, body, hy, hR.mono ?_⟩
    rintro e W' (⟨h1, h2, _⟩ | h)
    · exact .inl ⟨h1, h2⟩
    · exact .inr h) W (hA.below hW) h0
end Go.Proofs.Ytfnhkapbfgofkaa
