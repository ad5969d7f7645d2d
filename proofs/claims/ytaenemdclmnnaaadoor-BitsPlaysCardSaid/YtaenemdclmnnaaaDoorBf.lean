/- The range-function bits.numbers: it yields the numbers of a set from one on, in order, whatever the loop's body does to other blocks. -/
import Derived.RangeFuncNested
import Derived.RangeFuncBound
import Derived.RangeFuncBox
import Derived.RangeFuncCalls
import Derived.RangeFuncLeaves
import Derived.Shelf.Abstract
import Derived.Shelf.RegionOpen
import Derived.OwnWalkIn
import Derived.TacticsInMore
import Derived.LoopNIn
import Derived.LoopIn
import Derived.Maps.AppendAt
import Derived.Shelf.Spec.TrailingZeros
import Derived.Test.YtaenemdclmnnaaaDoorBd
namespace Go.Proofs.YtaenemdclmnnaaaDoor
open Go.RowKit Go.Shelf
attribute [local go_sem] Oper.semAt_some

def Tab (w : World) : Prop := TabAt 0 Lib.deBruijn64tab w
theorem Tab.below {w w' : World} (h : Tab w) (hb : Below w.heap.size w w') : Tab w' := fun j hj => (hb.cell (p := ⟨0, j, none⟩) (World.block_lt_of_cell? _ _ (h j hj))).trans (h j hj)
theorem Tab.same {w w' : World} (h : Tab w) (e : w'.heap[(0 : Nat)]? = w.heap[(0 : Nat)]?) : Tab w' := fun j hj => (World.cell?_of_block (a := ⟨0, j, none⟩) e).trans (h j hj)
theorem Tab.lt {w : World} (h : Tab w) : (0 : Nat) < w.heap.size := World.block_lt_of_cell? _ _ (h 0 (by decide))

theorem ctz_zero (w : World) : Calls Tryd.prog 53 #[.int .u64 0] w fun e w' => e = .returned (.int .i64 64) ∧ w = w' := by
  go_enter Tryd.func53, Tryd.ntmps53
  go_wp2
  go_ret
  exact ⟨rfl, rfl⟩
theorem ctz_core (x k idx : Nat) (w : World) (hx0 : ((x : Int) == 0) = false)
    (key : IntKind.u64.wrap (bits BinOp.and IntKind.u64 (x : Int) (IntKind.u64.wrap (-(x : Int))) * 285870213051353865) / 288230376151711744 = (idx : Int))
    (hi : idx < 64) (hk : k < 64) (hcell : w.cell? ⟨0, idx, none⟩ = some (.int .u8 k)) :
    Calls Tryd.prog 53 #[.int .u64 x] w fun e w' => e = .returned (.int .i64 k) ∧ w = w' := by
  go_enter Tryd.func53, Tryd.ntmps53
  go_wp2_with (simp only [key])
  go_ret
  exact ⟨rfl, rfl⟩
theorem ctz_ok (x : Nat) (w : World) (hx : x < 18446744073709551616) (hT : Tab w) : Calls Tryd.prog 53 #[.int .u64 x] w fun e w' => e = .returned (.int .i64 (Lib.ctz 64 x)) ∧ w = w' := by
  by_cases hx0 : x = 0
  · subst hx0
    exact ctz_zero w
  · obtain ⟨hlow, hk⟩ := Lib.lowest_bit 64 x hx0 hx
    obtain ⟨hi, htab⟩ := Lib.deBruijn64_at _ hk
    have hcell := hT _ hi
    rw [htab] at hcell
    exact ctz_core x _ _ w (by simp; omega) (tz64_key x _ hx hx0 hlow) hi hk hcell

/-- What a round that goes on keeps: the blocks below n₀ that X does not name. -/
def KpS (X : Nat → Prop) (n₀ : Nat) (A B : World) : Prop := ∀ k, k < n₀ → ¬ X k → B.heap[k]? = A.heap[k]?
theorem KpS.refl (X : Nat → Prop) (n₀ : Nat) (A : World) : KpS X n₀ A A := fun _ _ _ => rfl
theorem KpS.trans {X : Nat → Prop} {n₀ : Nat} {A B C : World} (h : KpS X n₀ A B) (k : KpS X n₀ B C) : KpS X n₀ A C := fun i hi hx => (k i hi hx).trans (h i hi hx)
theorem kpS_b {X : Nat → Prop} {n₀ : Nat} {w : World} (hn : n₀ ≤ w.heap.size) (W : World) (l : Nat) (o o' : Obj) (hl : w.heap.size ≤ l) (h : W.heap[l]? = some o) (h1 : o.isCells = false) (h2 : o.isWalk = false) : KpS X n₀ W (W.putObj l o') := fun k hk _ =>
  (belowK_b hn W l o o' hl h h1 h2).block k hk

structure NumAt (W : World) (X : Nat → Prop) (n₀ Bs Bf b g m : Nat) (f : Nat → Bool) (fr : Int) : Prop where
  s : SetW W b g m f
  bs : W.cell? ⟨Bs, 0, none⟩ = some (.pointer (some ⟨b, 0, none⟩))
  bf : W.cell? ⟨Bf, 0, none⟩ = some (.int .i64 fr)
  t : Tab W
  lb : b < n₀
  lg : g < n₀
  ls : Bs < n₀
  lf : Bf < n₀
  lt : (0 : Nat) < n₀
  xb : ¬ X b
  xg : ¬ X g
  xs : ¬ X Bs
  xf : ¬ X Bf
  xt : ¬ X (0 : Nat)
theorem NumAt.kp {W W' : World} {X : Nat → Prop} {n₀ Bs Bf b g m : Nat} {f : Nat → Bool} {fr : Int} (h : NumAt W X n₀ Bs Bf b g m f fr) (k : KpS X n₀ W W') : NumAt W' X n₀ Bs Bf b g m f fr :=
  ⟨h.s.same (k b h.lb h.xb) (k g h.lg h.xg), (World.cell?_of_block (a := ⟨Bs, 0, none⟩) (k Bs h.ls h.xs)).trans h.bs, (World.cell?_of_block (a := ⟨Bf, 0, none⟩) (k Bf h.lf h.xf)).trans h.bf, h.t.same (k _ h.lt h.xt), h.lb, h.lg, h.ls, h.lf, h.lt, h.xb, h.xg, h.xs, h.xf, h.xt⟩

/-- The numbers of f from fr on. -/
def from_ (f : Nat → Bool) (m : Nat) (fr : Int) : List Nat := (lst f m).filter fun (k : Nat) => decide (fr ≤ (k : Int))
/-- What is left when the words from the w-th on are. -/
def rest_ (f : Nat → Bool) (fr : Int) (w m : Nat) : List Nat := (seqW f w (nw m)).filter fun (k : Nat) => decide (fr ≤ (k : Int))
/-- What is left of a word x of place w. -/
def restW (fr : Int) (w x : Nat) : List Nat := ((bitsOf x).map (64 * w + ·)).filter fun (k : Nat) => decide (fr ≤ (k : Int))
theorem rest_step (f : Nat → Bool) (fr : Int) {w m : Nat} (h : w < nw m) : rest_ f fr w m = restW fr w (word f w) ++ rest_ f fr (w + 1) m := by
  unfold rest_ restW
  rw [seqW_step f h, List.filter_append]
theorem rest_done (f : Nat → Bool) (fr : Int) {w m : Nat} (h : nw m ≤ w) : rest_ f fr w m = [] := by
  unfold rest_
  rw [seqW_done f h]; rfl
theorem restW_zero (fr : Int) (w : Nat) : restW fr w 0 = [] := by simp [restW, bitsOf_zero]
theorem restW_step (fr : Int) (w : Nat) {x : Nat} (h0 : x ≠ 0) (hx : x < 2 ^ 64) : restW fr w x = (if fr ≤ ((64 * w + Lib.ctz 64 x : Nat) : Int) then [64 * w + Lib.ctz 64 x] else []) ++ restW fr w (x &&& (x - 1)) := by
  unfold restW
  rw [bitsOf_step h0 hx, List.map_cons, List.filter_cons]
  by_cases h : fr ≤ ((64 * w + Lib.ctz 64 x : Nat) : Int)
  · rw [if_pos (by simpa using h), if_pos h]; rfl
  · rw [if_neg (by simpa using h), if_neg h]; rfl
theorem rest_first {f : Nat → Bool} {m w : Nat} {fr : Int} (hf : ∀ k, m ≤ k → f k = false) (hw : 64 * (w : Int) ≤ max fr 0) : rest_ f fr w m = from_ f m fr := by
  have key := seqW_from (f := f) (n := m) (m := nw m) (w := w) (fr := (max fr 0).toNat) (nw_ge m) hf (by omega)
  have e : (fun k : Nat => decide (fr ≤ (k : Int))) = fun k : Nat => decide ((max fr 0).toNat ≤ k) := by
    funext k
    rw [decide_eq_decide]; omega
  unfold rest_ from_
  rw [e]; exact key

set_option maxRecDepth 100000 in
set_option maxHeartbeats 4000000 in
theorem numbers1_in (n : Nat) (hn : 1 ≤ n) (l Bs Bf n₀ b g m : Nat) (f : Nat → Bool) (fr : Int) (X : Nat → Prop) (J Jx : List Nat → World → Prop)
    (hY : ∀ pre x W, J pre W → pre.length < (from_ f m fr).length → YieldAt Fence.wide (n - 1) Tryd.prog l #[.int .i64 ((x : Nat) : Int)] W fun e W' =>
      (e = .returned (.bool true) ∧ J (pre ++ [x]) W' ∧ KpS X n₀ W W') ∨ (e = .returned (.bool false) ∧ Jx (pre ++ [x]) W'))
    (W : World) (hA : NumAt W X n₀ Bs Bf b g m f fr) (hfr : fr ≤ 9223372036854775807) (h0 : J [] W) :
    CallsIn Fence.wide n Tryd.prog 52 #[.func (.yield l) #[] #[], .pointer (some ⟨Bs, 0, none⟩), .pointer (some ⟨Bf, 0, none⟩)] W fun e W' => (∃ v, e = .returned v) ∧
      ((∃ ys, ys = from_ f m fr ∧ J ys W') ∨ (∃ pre, pre <+: from_ f m fr ∧ Jx pre W')) := by
  have hbs := hA.bs
  have hbf := hA.bf
  obtain ⟨cap, hc1, hcap, hcm⟩ := hA.s.c1
  have hnl := nw_le hA.s.hi
  have HA := Lib.hid hA
  have HV := Lib.hid hA.s
  have HY := Lib.hid hY
  have H0 := Lib.hid h0
  clear hA hY h0
  have HR : Hid (∀ w : Nat, 64 * (w : Int) ≤ max fr 0 → rest_ f fr w m = from_ f m fr) := fun w hw => rest_first HV.out.out hw
  have hex : ∃ w0 : Nat, 64 * (w0 : Int) ≤ max fr 0 ∧ (fr < 0 ∧ w0 = 0 ∨ fr = 0 ∧ w0 = 0 ∨ 0 < fr ∧ (w0 : Int) = fr / 64) := by
    by_cases h : fr < 0
    · exact ⟨0, by omega, .inl ⟨h, rfl⟩⟩
    · by_cases h0 : fr = 0
      · exact ⟨0, by omega, .inr (.inl ⟨h0, rfl⟩)⟩
      · exact ⟨(fr / 64).toNat, by omega, .inr (.inr ⟨by omega, by omega⟩)⟩
  obtain ⟨w0, hw0, hcase⟩ := hex
  have hst := HR.out w0 hw0
  have HS := Lib.hid hst
  clear hst hw0 HR
  rcases hcase with ⟨hneg, rfl⟩ | ⟨hfr0, rfl⟩ | ⟨hpos, hw0⟩
  all_goals
    first | have HW0 := Lib.hid hw0 | skip
    first | clear hw0 | skip
    refine callsIn_of_wp Tryd.func52 rfl trivial ?_ rfl
    simp only [Tryd.ntmps52, List.size_toArray, List.length_cons, List.length_nil, Nat.reduceAdd, Nat.reduceSub, Array.replicate_succ, Array.replicate_zero, List.push_toArray, List.append_toArray, List.nil_append, List.cons_append]
    gi_wp2_with (refine ⟨trivial, ?_⟩; gi_at_call 38; refine (callsIn_wide.2 (valid_yes _ _ _ _ _ HV.out)).mono ?_; rintro e w' ⟨rfl, rfl⟩)
    gi_loopw [4] (fun i wr => ∃ (k : Nat) (pre : List Nat), i = .int .i64 k ∧ Hid (J pre wr) ∧ Hid (KpS X n₀ W wr) ∧ Hid (pre ++ rest_ f fr k m = from_ f m fr)) (fun i _ => nw m - (intOf i).toNat)
    case atStart =>
      first
        | exact ⟨0, [], rfl, H0, KpS.refl _ _ _, HS.out⟩
        | exact ⟨w0, [], by rw [← HW0.out], H0, KpS.refl _ _ _, HS.out⟩
    case round =>
      obtain ⟨k, pre, rfl, HJ, HK, HP⟩ := hrel
      have HA2 := Lib.hid (HA.out.kp HK.out)
      have hbs2 := HA2.out.bs
      have hbf2 := HA2.out.bf
      obtain ⟨cap2, hc2, hcap2, hcm2⟩ := HA2.out.s.c1
      by_cases hlt : k < nw m
      · have hw := HA2.out.s.word hlt
        obtain ⟨x0, ex0⟩ : ∃ x0, word f k = x0 := ⟨_, rfl⟩
        have hx0 : x0 < 2 ^ 64 := by rw [← ex0]; exact word_lt _ _
        have hp2 := HP.out
        rw [rest_step f fr hlt, ex0] at hp2
        have HP2 := Lib.hid hp2
        have HX0 := Lib.hid hx0
        rw [ex0] at hw
        clear hp2 hx0 ex0 hbs hbf hc1
        gi_wp2
        gi_loopw [5] (fun v wq => ∃ (x : Nat) (pre : List Nat), v = .int .u64 x ∧ Hid (x < 2 ^ 64) ∧ Hid (J pre wq) ∧ Hid (KpS X n₀ W wq) ∧ Hid (pre ++ (restW fr k x ++ rest_ f fr (k + 1) m) = from_ f m fr)) (fun v _ => (intOf v).toNat)
        case atStart => exact ⟨x0, pre, rfl, HX0.out, HJ.out, HK.out, HP2.out⟩
        case round =>
          obtain ⟨x, pre2, rfl, HX, HJ2, HK2, HP3⟩ := hrel
          have HA3 := Lib.hid (HA.out.kp HK2.out)
          have hbs3 := HA3.out.bs
          have hbf3 := HA3.out.bf
          clear hbs2 hbf2 hc2 hw
          by_cases hx : x = 0
          · subst hx
            have hp3 := HP3.out
            rw [restW_zero, List.nil_append] at hp3
            have HP4 := Lib.hid hp3
            clear hp3
            gi_wp2
            go_roundw
            case rel => exact ⟨k + 1, pre2, by go_num, HJ2.out, HK2.out, HP4.out⟩
            case measure => simp [intOf]; omega
          · have hne : ((x : Int) == 0) = false := beq_eq_false_iff_ne.2 (by omega)
            have hne2 : ((x : Int) != 0) = true := by simp [bne, hne]
            have hp3 := HP3.out
            rw [restW_step fr k hx HX.out] at hp3
            have hct := ctz_lt hx HX.out
            have hnx := and_pred_lt hx
            obtain ⟨t, et⟩ : ∃ t, Lib.ctz 64 x = t := ⟨_, rfl⟩
            obtain ⟨y, ey⟩ : ∃ y, x &&& (x - 1) = y := ⟨_, rfl⟩
            have hand : bits .and .u64 (x : Int) ((x : Int) - 1) = (y : Int) := by
              have := bits_and_u64_nat x (x - 1) HX.out (by have := HX.out; unfold Hid at *; omega)
              rw [ey] at this
              rw [← this]; congr 1; omega
            rw [et] at hp3 hct
            rw [ey] at hp3 hnx
            have HT := Lib.hid et
            have HXl : x < 18446744073709551616 := HX.out
            clear et ey
            by_cases hge : fr ≤ ((64 * k + t : Nat) : Int)
            · rw [if_pos hge] at hp3
              have HP4 := Lib.hid hp3
              have hYx := HY.out pre2 (64 * k + t) _ HJ2.out (by rw [← hp3]; simp)
              obtain ⟨fn, tmps, assign, body, hy, hR⟩ := hYx
              have HQ : Hid ((pre2 ++ [64 * k + t]) ++ (restW fr k y ++ rest_ f fr (k + 1) m) = from_ f m fr) := by unfold Hid; rw [← hp3]; simp
              have ei : ((64 * k + t : Nat) : Int) = (k : Int) * 64 + (t : Int) := by omega
              have hge2 : fr ≤ (k : Int) * 64 + (t : Int) := by omega
              rw [ei] at hy
              clear hp3 ei hge
              gi_wp2_with (refine ⟨trivial, ?_⟩; gi_at_call 53; refine (callsIn_wide.2 (ctz_ok x _ HXl HA3.out.t)).mono ?_; rw [HT.out]; rintro e w' ⟨rfl, rfl⟩)
              refine hR.mono ?_
              rintro e W3 (⟨rfl, hJ3, hk3⟩ | ⟨rfl, hJx3⟩)
              · have HJ4 := Lib.hid hJ3
                have HK4 := Lib.hid (HK2.out.trans hk3)
                clear hJ3 hk3 hbs3 hbf3 hy
                gi_wp2
                go_roundw
                case rel => exact ⟨y, _, rfl, Nat.lt_trans hnx HX.out, HJ4.out, HK4.out, HQ.out⟩
                case measure => simp [intOf]; omega
              · have HJ4 := Lib.hid hJx3
                clear hJx3 hbs3 hbf3 hy
                gi_wp2
                refine bodyPost_ret (results_none rfl _ _ _) rfl ?_
                exact ⟨⟨_, rfl⟩, .inr ⟨pre2 ++ [64 * k + t], ⟨_, HQ.out⟩, HJ4.out⟩⟩
            · first
                | (exfalso; omega)
                | (rw [if_neg hge, List.nil_append] at hp3
                   have HP4 := Lib.hid hp3
                   have hge2 : (k : Int) * 64 + (t : Int) < fr := by omega
                   clear hp3 hge
                   gi_wp2_with (refine ⟨trivial, ?_⟩; gi_at_call 53; refine (callsIn_wide.2 (ctz_ok x _ HXl HA3.out.t)).mono ?_; rw [HT.out]; rintro e w' ⟨rfl, rfl⟩)
                   refine ⟨fun _ h => (by cases h), ?_⟩
                   gi_wp2
                   go_roundw
                   case rel => exact ⟨y, pre2, rfl, Nat.lt_trans hnx HX.out, HJ2.out, HK2.out, HP4.out⟩
                   case measure => simp [intOf]; omega)
      · have hp2 := HP.out
        rw [rest_done f fr (by omega), List.append_nil] at hp2
        have HP2 := Lib.hid hp2
        clear hp2 hbs hbf hc1
        gi_wp2
        go_end0
        exact ⟨⟨_, rfl⟩, .inl ⟨_, HP2.out, HJ.out⟩⟩
end Go.Proofs.YtaenemdclmnnaaaDoor
