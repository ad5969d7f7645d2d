/- The range-function answer.said: it yields what the letters of a text say, up to the first one that says nothing; the program's Parse. -/
import Derived.Test.YtpgokoeedmipeaaDoorAa
import Derived.RangeFuncNested
import Derived.RangeFuncBound
import Derived.RangeFuncBox
import Derived.RangeFuncCalls
import Derived.RangeFuncLeaves
import Derived.Shelf.Abstract
import Derived.Shelf.RegionOpen
import Derived.BigFrameIn
import Derived.OwnWalkIn
import Derived.TacticsInMore
import Derived.LoopNIn
import Derived.LoopIn
namespace Go.Proofs.YtpgokoeedmipeaaDoor
open Go.RowKit Go.Shelf
attribute [local go_sem] Oper.semAt_some

theorem said_ok (s : ByteArray) (w : World) : Calls Tryd.prog 19 #[.string s] w fun e w' => e = .returned (.func (.func 21) #[] #[.pointer (some ⟨w.heap.size, 0, none⟩)]) ∧ w.alloc (.cells #[.string s] 9) = w' := by
  go_enter Tryd.func19, Tryd.ntmps19
  go_wp2
  go_ret
  exact ⟨rfl, rfl⟩

/-- The letters of a text up to the first one that says nothing. -/
def first_ (bs : List UInt8) : List UInt8 := bs.takeWhile fun b => decide (num b.toNat ≠ 0)
theorem first_good : ∀ bs : List UInt8, Good (first_ bs)
  | [], _, hb => by cases hb
  | x :: bs, b, hb => by
    unfold first_ at hb
    rw [List.takeWhile_cons] at hb
    split at hb
    · rename_i hx
      rcases List.mem_cons.1 hb with rfl | hb
      · simpa using hx
      · exact first_good bs b hb
    · cases hb
theorem first_le (bs : List UInt8) : (first_ bs).length ≤ bs.length := (List.takeWhile_sublist _).length_le
theorem first_all : ∀ {bs : List UInt8}, Good bs → first_ bs = bs
  | [], _ => rfl
  | x :: bs, h => by
    have ih := first_all (bs := bs) fun b hb => h b (by simp [hb])
    unfold first_ at ih ⊢
    rw [List.takeWhile_cons, if_pos (by simpa using h x (by simp)), ih]
theorem first_lt {bs : List UInt8} (h : ¬ Good bs) : (first_ bs).length < bs.length := by
  refine Nat.lt_of_le_of_ne (first_le bs) fun e => h ?_
  have := (List.takeWhile_sublist (l := bs) fun b => decide (num b.toNat ≠ 0)).eq_of_length e
  have hg := first_good bs
  unfold first_ at hg
  rw [this] at hg
  exact hg
theorem good_take {bs : List UInt8} {k : Nat} (h : k < bs.length) (hg : Good (bs.take k)) (hb : num bs[k].toNat ≠ 0) : Good (bs.take (k + 1)) := by
  rw [List.take_succ_eq_append_getElem h]
  exact good_append.2 ⟨hg, fun x hx => by simp at hx; subst hx; exact hb⟩
theorem first_stop {bs : List UInt8} {k : Nat} (h : k < bs.length) (hg : Good (bs.take k)) (hb : num bs[k].toNat = 0) : first_ bs = bs.take k := by
  have e : bs = bs.take k ++ bs[k] :: bs.drop (k + 1) := by rw [← List.drop_eq_getElem_cons h, List.take_append_drop]
  unfold first_
  conv => lhs; rw [e]
  rw [List.takeWhile_append_of_pos (fun b hb => by simpa using hg b hb), List.takeWhile_cons, if_neg (by simpa using hb), List.append_nil]
theorem first_prefix {bs : List UInt8} {k : Nat} (hg : Good (bs.take k)) : bs.take k <+: first_ bs := by
  have e : bs = bs.take k ++ bs.drop k := (List.take_append_drop k bs).symm
  unfold first_
  conv => rhs; rw [e]
  rw [List.takeWhile_append_of_pos (fun b hb => by simpa using hg b hb)]
  exact List.prefix_append _ _

/-- What a round that goes on keeps: the blocks below n₀ that X does not name. -/
def KpS (X : Nat → Prop) (n₀ : Nat) (A B : World) : Prop := ∀ k, k < n₀ → ¬ X k → B.heap[k]? = A.heap[k]?
theorem KpS.refl (X : Nat → Prop) (n₀ : Nat) (A : World) : KpS X n₀ A A := fun _ _ _ => rfl
theorem KpS.trans {X : Nat → Prop} {n₀ : Nat} {A B C : World} (h : KpS X n₀ A B) (k : KpS X n₀ B C) : KpS X n₀ A C := fun i hi hx => (k i hi hx).trans (h i hi hx)
theorem kpS_b {X : Nat → Prop} {n₀ : Nat} {w : World} (hn : n₀ ≤ w.heap.size) (W : World) (l : Nat) (o o' : Obj) (hl : w.heap.size ≤ l) (h : W.heap[l]? = some o) (h1 : o.isCells = false) (h2 : o.isWalk = false) : KpS X n₀ W (W.putObj l o') := fun k hk _ =>
  (belowK_b hn W l o o' hl h h1 h2).block k hk
theorem KpS.of_below {X : Nat → Prop} {n₀ : Nat} {A B : World} (h : Below A.heap.size A B) (hn : n₀ ≤ A.heap.size) : KpS X n₀ A B := fun k hk _ => h.block k (by omega)

structure SaidAt (W : World) (X : Nat → Prop) (n₀ Bt : Nat) (s : ByteArray) : Prop where
  bt : W.cell? ⟨Bt, 0, none⟩ = some (.string s)
  env : Env W
  lb : Bt < n₀
  lt : (0 : Nat) < n₀
  xb : ¬ X Bt
  xt : ¬ X (0 : Nat)
theorem SaidAt.kp {W W' : World} {X : Nat → Prop} {n₀ Bt : Nat} {s : ByteArray} (h : SaidAt W X n₀ Bt s) (k : KpS X n₀ W W') : SaidAt W' X n₀ Bt s :=
  ⟨(World.cell?_of_block (a := ⟨Bt, 0, none⟩) (k Bt h.lb h.xb)).trans h.bt, h.env.same (k _ h.lt h.xt), h.lb, h.lt, h.xb, h.xt⟩

theorem index_q (b : Nat) (w : World) (he : Env w) : Calls Tryd.prog 22 #[.slice (some ⟨0, 0, none⟩) 4 4, .int .u8 (b : Int)] w fun e w' => e = .returned (.int .i64 (place b)) ∧ w' = w :=
  (index_ok b w he).mono fun _ _ ⟨h1, h2⟩ => ⟨h1, h2.symm⟩
theorem letters_slice (w : World) : (Instr.sliceAt 43 (.pointer (some ⟨0, 0, none⟩)) none none none).run Tryd.prog w = .ok (.slice (some ⟨0, 0, none⟩) 4 4) w := by kernel_rfl
theorem byte_data (s : ByteArray) (k : Nat) (h : k < s.size) : ∃ hk : k < s.data.toList.length, s.data.toList[k] = s[k] := ⟨by rw [← size_data]; exact h, rfl⟩

set_option maxRecDepth 100000 in
set_option maxHeartbeats 4000000 in
theorem said1_in (n : Nat) (hn : 1 ≤ n) (l Bt n₀ : Nat) (s : ByteArray) (hs : s.size ≤ 2000) (X : Nat → Prop) (J Jx : List Int → World → Prop)
    (hY : ∀ pre x W, J pre W → pre.length < (nums (first_ s.data.toList)).length → YieldAt Fence.wide (n - 1) Tryd.prog l #[.int .i64 x] W fun e W' =>
      (e = .returned (.bool true) ∧ J (pre ++ [x]) W' ∧ KpS X n₀ W W') ∨ (e = .returned (.bool false) ∧ Jx (pre ++ [x]) W'))
    (W : World) (hab : AbidesFrom W.heap.size J) (hA : SaidAt W X n₀ Bt s) (h0 : J [] W) :
    CallsIn Fence.wide n Tryd.prog 21 #[.func (.yield l) #[] #[], .pointer (some ⟨Bt, 0, none⟩)] W fun e W' => (∃ v, e = .returned v) ∧
      ((∃ ys, ys = nums (first_ s.data.toList) ∧ J ys W') ∨ (∃ pre, pre <+: nums (first_ s.data.toList) ∧ Jx pre W')) := by
  have hbt := hA.bt
  have HA := Lib.hid hA
  have HAB : Hid (∀ pre A q, J pre A → J pre (A.drewN q)) := fun pre A q h => hab pre A _ none h ⟨rfl, rfl, rfl, Nat.le_refl _, fun _ _ _ => rfl⟩ (fun _ h => by cases h)
  clear hab
  have HY := Lib.hid hY
  have H0 := Lib.hid h0
  have HSZ := Lib.hid (size_data s)
  clear hA hY h0
  refine callsIn_of_wp Tryd.func21 rfl trivial ?_ rfl
  simp only [Tryd.ntmps21, List.size_toArray, List.length_cons, List.length_nil, Nat.reduceAdd, Nat.reduceSub, Array.replicate_succ, Array.replicate_zero, List.push_toArray, List.append_toArray, List.nil_append, List.cons_append]
  gi_wp2
  gi_loopw [7] (fun i wr => ∃ (k : Nat), i = .int .i64 k ∧ k ≤ s.size ∧ Hid (J (nums (s.data.toList.take k)) wr) ∧ Hid (KpS X n₀ W wr) ∧ Hid (Good (s.data.toList.take k))) (fun i _ => s.size - (intOf i).toNat)
  case atStart => exact ⟨0, rfl, Nat.zero_le _, H0, KpS.refl _ _ _, good_nil⟩
  case round =>
    obtain ⟨k, rfl, hk, HJ, HK, HG⟩ := hrel
    have HA2 := Lib.hid (HA.out.kp HK.out)
    have hbt2 := HA2.out.bt
    by_cases hlt : k < s.size
    · obtain ⟨hkl, hb⟩ := byte_data s k hlt
      have hb' : s.data.toList[k].toNat = s[k].toNat := by rw [hb]
      have hfull := letters_slice
      clear hbt
      gi_wp2
      refine wpIn_wide.2 ?_
      go_quiet ((go_at_call 22; exact Calls.quiet_of_same (index_q _ _ (HA2.out.env.drewN _))))
      clear hfull hbt2
      obtain ⟨b, eb⟩ : ∃ b, s[k].toNat = b := ⟨_, rfl⟩
      rw [eb]
      have hb'e : s.data.toList[k].toNat = b := by rw [hb', eb]
      clear eb
      have HJD : Hid (J (nums (s.data.toList.take k)) (wr.drewN nq)) := HAB.out _ _ _ HJ.out
      have HKD : Hid (KpS X n₀ W (wr.drewN nq)) := HK
      by_cases hgood : num b = 0
      · have hp := place_bad hgood
        generalize place b = x at *
        have HP := Lib.hid hp
        clear hp
        gi_wp2_with (refine ⟨trivial, ?_⟩; gi_at_call 18; refine (callsIn_wide.2 (is_no _ _ HP.out)).mono ?_; rintro e w' ⟨rfl, rfl⟩)
        refine ⟨fun _ h => (by cases h), ?_⟩
        gi_wp2
        have hst := first_stop hkl HG.out (by rw [hb'e]; exact hgood)
        refine bodyPost_ret (results_none rfl _ _ _) rfl ?_
        exact ⟨⟨_, rfl⟩, .inl ⟨_, by rw [hst], HJD.out⟩⟩
      · obtain ⟨hp1, hp⟩ := place_good hgood
        have hgk := good_take hkl HG.out (by rw [hb'e]; exact hgood)
        have hsn := nums_snoc s.data.toList k hkl
        rw [hb'e, ← hp1] at hsn
        have hpre := first_prefix hgk
        have hlen : (nums (s.data.toList.take k)).length < (nums (first_ s.data.toList)).length := by
          have h1 := hpre.length_le
          rw [nums_length, nums_length]
          rw [List.length_take] at h1 ⊢
          omega
        generalize place b = x at *
        have HP := Lib.hid hp
        have HSN := Lib.hid hsn
        have HGK := Lib.hid hgk
        have hYx := HY.out _ x _ HJD.out hlen
        rw [← hsn] at hYx
        obtain ⟨fn, tmps, assign, body, hy, hR⟩ := hYx
        clear hp hsn hgk hpre hlen hp1 hgood hb' hb'e
        gi_wp2_with (refine ⟨trivial, ?_⟩; gi_at_call 18; refine (callsIn_wide.2 (is_yes _ _ HP.out)).mono ?_; rintro e w' ⟨rfl, rfl⟩)
        refine hR.mono ?_
        rintro e W3 (⟨rfl, hJ3, hk3⟩ | ⟨rfl, hJx3⟩)
        · have HJ4 := Lib.hid hJ3
          have HK4 := Lib.hid (HKD.out.trans hk3)
          clear hJ3 hk3 hy
          gi_wp2
          exact ⟨⟨k + 1, by go_num, by omega, HJ4.out, HK4.out, HGK.out⟩, by simp [intOf]; omega⟩
        · have HJ4 := Lib.hid hJx3
          clear hJx3 hy
          gi_wp2
          refine bodyPost_ret (results_none rfl _ _ _) rfl ?_
          have hx : nums (s.data.toList.take (k + 1)) <+: nums (first_ s.data.toList) := by
            obtain ⟨r, hr⟩ := first_prefix HGK.out
            exact ⟨nums r, by rw [← hr, nums_append]⟩
          exact ⟨⟨_, rfl⟩, .inr ⟨_, hx, HJ4.out⟩⟩
    · obtain rfl : k = s.size := by omega
      clear hbt
      gi_wp2
      go_end0
      have e : s.data.toList.take s.size = s.data.toList := by rw [HSZ.out]; exact List.take_length
      have hg := HG.out
      have hj := HJ.out
      rw [e] at hg hj
      exact ⟨⟨_, rfl⟩, .inl ⟨_, by rw [first_all hg], hj⟩⟩
theorem said_stops (n : Nat) (hn : 1 ≤ n) (Bt n₀ : Nat) (s : ByteArray) (hs : s.size ≤ 2000) (X : Nat → Prop) (w : World) (hA : SaidAt w X n₀ Bt s) (hn₀ : n₀ ≤ w.heap.size) :
    SeqStopsK Fence.wide n Tryd.prog 21 #[.pointer (some ⟨Bt, 0, none⟩)] (fun x : Int => #[Value.int .i64 x]) (KpS X n₀) (fun ys => ys = nums (first_ s.data.toList)) (fun pre => pre <+: nums (first_ s.data.toList)) (nums (first_ s.data.toList)).length w := fun l J Jx W hW hab _ hY h0 =>
  said1_in n hn l Bt n₀ s hs X J Jx hY W hab (hA.kp (KpS.of_below hW hn₀)) h0
end Go.Proofs.YtpgokoeedmipeaaDoor
