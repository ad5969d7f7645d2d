/- The three tables of a world under one name: what is there, what an acquisition and a release do to them. -/
import Derived.Test.YtpinmiplefidpaaGreatDoorOp
namespace Go.Proofs.YtpinmiplefidpaaGreatDoor
open Go.RowKit

/-- The table of the resources of a kind. -/
def Wd.tab (W : Wd) (k : Int) : Tb := if k = 1 then W.F.t else if k = 2 then W.P.t else W.D.t
section
variable {W : Wd} {k i g x y : Int}
theorem Wd.tab1 : W.tab 1 = W.F.t := rfl
theorem Wd.tab2 : W.tab 2 = W.P.t := rfl
theorem Wd.tab3 : W.tab 3 = W.D.t := rfl
theorem Wd.Ok.tn (h : W.Ok) (k : Int) : (W.tab k).n = 64 := by
  unfold Wd.tab
  split
  · exact h.nF
  · split
    · exact h.nP
    · exact h.nD
theorem Wd.Ok.tok (h : W.Ok) (k : Int) : (W.tab k).Ok := by
  unfold Wd.tab
  split
  · exact h.F.t
  · split
    · exact h.P.t
    · exact h.D.t
theorem Wd.Ok.here (h : W.Ok) : W.Here k i g ↔ 1 ≤ k ∧ k ≤ 3 ∧ ∃ j : Nat, i = j ∧ j < 64 ∧ (W.tab k).s j = 1 ∧ ((W.tab k).g j : Int) = g := by
  have h1 := h.nF
  have h2 := h.nP
  have h3 := h.nD
  constructor
  · rintro (e | e | e)
    · obtain ⟨rfl, j, rfl, q1, q2, q3⟩ := FD.Fb.chk_open e
      exact ⟨by omega, by omega, j, rfl, by omega, q2, q3⟩
    · obtain ⟨rfl, j, rfl, q1, q2, q3⟩ := BF.Po.chk_pinned e
      exact ⟨by omega, by omega, j, rfl, by omega, q2, q3⟩
    · obtain ⟨rfl, j, rfl, q1, q2, q3⟩ := LS.Dk.chk_is e
      exact ⟨by omega, by omega, j, rfl, by omega, q2, q3.symm⟩
  · rintro ⟨h4, h5, j, rfl, q1, q2, q3⟩
    by_cases k1 : k = 1
    · subst k1
      subst q3
      exact .inl (h.F.chk_held (by omega) q2)
    by_cases k2 : k = 2
    · subst k2
      subst q3
      exact .inr (.inl (BF.Po.chk_held (by rw [h2]; exact q1) q2))
    obtain rfl : k = 3 := by omega
    subst q3
    exact .inr (.inr (h.D.chk_held (by omega) q2))
theorem Wd.all_tab : W.all.length = (W.tab 1).held.length + (W.tab 2).held.length + (W.tab 3).held.length := Wd.all_len W
theorem took_held {T : Tb} {i : Nat} (hi : i < T.n) (hs : T.s i = 0) : (T.took i).held.length = T.held.length + 1 := by
  have := sel_put_len (f := T.s) (v := 1) (j := i) (u := 1) hi
  rw [hs] at this
  unfold Tb.held Tb.took
  simpa using this

/-! ### Acquire -/
theorem Wd.gE_vals : W.gE k x = 0 ∨ W.gE k x = 2 ∨ W.gE k x = 4 ∨ W.gE k x = 17 := by
  unfold Wd.gE
  split
  · split
    · unfold FD.Fb.oE
      split <;> simp
    · simp
  · split
    · rcases W.P.can_cases x with ⟨_, e⟩ | ⟨_, _, _, e⟩ | ⟨_, _, _, _, e⟩ | ⟨_, _, _, _, _, _, e⟩ <;> rw [e] <;> simp
    · split
      · rcases W.D.g_cases x W.T with ⟨_, e⟩ | ⟨_, _, _, e⟩ | ⟨_, _, _, _, e⟩ | ⟨_, _, _, _, _, _, e⟩ <;> rw [e] <;> simp
      · simp
theorem Wd.Ok.aE_vals (h : W.Ok) (hg : W.gE k x = 0) : W.aE k x = 0 ∨ W.aE k x = 15 ∨ W.aE k x = 14 := by
  obtain ⟨h1, h2⟩ := h.ans
  have : W.h = 1 ∨ W.h = 2 ∨ W.h = 3 := by omega
  rcases this with e | e | e
  · exact .inl (Wd.aE_ok hg e).1
  · exact .inr (.inl (Wd.aE_late hg e).1)
  · exact .inr (.inr (Wd.aE_fail hg e).1)
theorem Wd.gE_kind (h : W.gE k x = 0) : 1 ≤ k ∧ k ≤ 3 := by
  unfold Wd.gE at h
  split at h
  · omega
  · split at h
    · omega
    · split at h
      · omega
      · omega
theorem Wd.aE_gE (h : W.aE k x = 0) : W.gE k x = 0 := by
  unfold Wd.aE at h
  split at h
  · assumption
  · assumption
/-- What is not acquired leaves the tables as they are. -/
theorem Wd.acq_no_tab (h : W.aE k x ≠ 0) (k' : Int) : (W.acq k x).tab k' = W.tab k' := by
  unfold Wd.acq
  split
  · rfl
  · rfl
theorem Wd.acq_ok (h : W.aE k x = 0) : W.acq k x = W.next.got k x := by
  unfold Wd.acq
  rw [if_pos (Wd.aE_gE h), if_pos h]
theorem Wd.next_tab (k' : Int) : W.next.tab k' = W.tab k' := rfl
/-- What is acquired: the first free place of its kind. -/
theorem Wd.Ok.acquired (h : W.Ok) (ha : W.aE k x = 0) : 1 ≤ k ∧ k ≤ 3 ∧ ∃ j : Nat, j < 64 ∧ (W.tab k).s j = 0 ∧ W.aK k x = k ∧ W.aI k x = j ∧ W.aG k x = (W.tab k).g j ∧ (W.acq k x).tab k = (W.tab k).took j ∧ ∀ k', k' ≠ k → 1 ≤ k' → k' ≤ 3 → (W.acq k x).tab k' = W.tab k' := by
  have hg := Wd.aE_gE ha
  obtain ⟨h1, h2⟩ := Wd.gE_kind hg
  refine ⟨h1, h2, ?_⟩
  rw [Wd.acq_ok ha]
  unfold Wd.aK Wd.aI Wd.aG
  rw [if_pos ha, if_pos ha, if_pos ha]
  by_cases k1 : k = 1
  · subst k1
    obtain ⟨g0, g1, g2⟩ := Wd.gE_file hg
    unfold FD.Fb.oE at g2
    split at g2
    · omega
    · rename_i j r hf
      obtain ⟨q1, q2⟩ := Tb.free_lt hf
      have e : W.F.oK = 1 ∧ W.F.oI = j ∧ W.F.oG = W.F.t.g j := by unfold FD.Fb.oK FD.Fb.oI FD.Fb.oG; rw [hf]; exact ⟨rfl, rfl, rfl⟩
      rw [if_pos rfl, if_pos rfl, if_pos rfl, e.1, e.2.1, e.2.2]
      refine ⟨j, by have := h.nF; omega, q2, rfl, rfl, rfl, ?_, fun k' hk b1 b2 => ?_⟩
      · show (W.F.opn x.toNat).t = W.F.t.took j
        unfold FD.Fb.opn
        rw [hf]; rfl
      · unfold Wd.tab Wd.got
        rw [if_neg hk, if_neg hk]
        rfl
  · rw [if_neg k1, if_neg k1, if_neg k1]
    by_cases k2 : k = 2
    · subst k2
      rw [if_pos rfl, if_pos rfl, if_pos rfl]
      have hc : W.P.can x = 0 := hg
      obtain ⟨_, _, _, j, r, hf⟩ := BF.Po.can_zero hc
      obtain ⟨q1, q2⟩ := Tb.free_lt hf
      obtain ⟨e1, e2, e3, e4⟩ := BF.Po.pin_zero hc hf
      rw [e2, e3, e4]
      refine ⟨j, by have := h.nP; omega, q2, rfl, rfl, rfl, ?_, fun k' hk b1 b2 => ?_⟩
      · show (W.P.pin x).t = W.P.t.took j
        rw [e1]; rfl
      · unfold Wd.tab Wd.got
        rw [if_neg hk, if_neg hk]
        rfl
    · obtain rfl : k = 3 := by omega
      rw [if_neg k2, if_neg k2, if_neg k2]
      have hc : W.D.gE x W.T = 0 := hg
      rcases W.D.g_cases x W.T with ⟨_, e⟩ | ⟨_, _, _, e⟩ | ⟨_, _, _, _, e⟩ | ⟨_, _, _, j, r, hf, _⟩
      · omega
      · omega
      · omega
      · obtain ⟨q1, q2⟩ := Tb.free_lt hf
        obtain ⟨e1, e2, e3, e4⟩ := LS.Dk.grant_zero hc hf
        rw [e2, e3, e4]
        refine ⟨j, by have := h.nD; omega, q2, rfl, rfl, rfl, ?_, fun k' hk b1 b2 => ?_⟩
        · show (W.D.grant x W.T).t = W.D.t.took j
          rw [e1]; rfl
        · have : k' = 1 ∨ k' = 2 := by omega
          rcases this with rfl | rfl <;> rfl
theorem Wd.Ok.acq_here (h : W.Ok) (ha : W.aE k x = 0) : (W.acq k x).Here (W.aK k x) (W.aI k x) (W.aG k x) := by
  obtain ⟨h1, h2, j, hj, hs, e1, e2, e3, e4, _⟩ := h.acquired ha
  rw [e1, e2, e3, (h.acq k x).here]
  refine ⟨h1, h2, j, rfl, hj, ?_, ?_⟩
  · rw [e4]; simp [Tb.took, put_same]
  · rw [e4]; rfl
theorem Wd.Ok.acq_len (h : W.Ok) (ha : W.aE k x = 0) : (W.acq k x).all.length = W.all.length + 1 := by
  obtain ⟨h1, h2, j, hj, hs, _, _, _, e4, e5⟩ := h.acquired ha
  have ht : ((W.tab k).took j).held.length = (W.tab k).held.length + 1 := took_held (by rw [h.tn]; exact hj) hs
  rw [Wd.all_tab, Wd.all_tab]
  have : k = 1 ∨ k = 2 ∨ k = 3 := by omega
  rcases this with rfl | rfl | rfl
  · rw [e4, e5 2 (by decide) (by decide) (by decide), e5 3 (by decide) (by decide) (by decide), ht]; omega
  · rw [e4, e5 1 (by decide) (by decide) (by decide), e5 3 (by decide) (by decide) (by decide), ht]; omega
  · rw [e4, e5 1 (by decide) (by decide) (by decide), e5 2 (by decide) (by decide) (by decide), ht]; omega
theorem Wd.all_of_tabs {U : Wd} (h1 : U.tab 1 = W.tab 1) (h2 : U.tab 2 = W.tab 2) (h3 : U.tab 3 = W.tab 3) : U.all = W.all := by
  have e1 : U.F.t = W.F.t := h1
  have e2 : U.P.t = W.P.t := h2
  have e3 : U.D.t = W.D.t := h3
  unfold Wd.all FD.Fb.all BF.Po.all LS.Dk.all
  rw [e1, e2, e3]
theorem Wd.acq_no_all (h : W.aE k x ≠ 0) : (W.acq k x).all = W.all := Wd.all_of_tabs (Wd.acq_no_tab h 1) (Wd.acq_no_tab h 2) (Wd.acq_no_tab h 3)

/-! ### Release -/
theorem gave_s (T : Tb) (i : Nat) : (T.gave i).s i ≠ 1 := by unfold Tb.gave; split <;> simp [put_same]
/-- Where the answer is not 1, a release leaves the tables as they are. -/
theorem Wd.rel_no_tab (h : ¬ (W.lE k i g y = 0 ∧ W.h = 1)) (k' : Int) : (W.rel k i g y).tab k' = W.tab k' := by
  unfold Wd.rel
  split
  · rename_i h1
    rw [if_neg (fun c => h ⟨h1, c⟩)]
    rfl
  · rfl
/-- What is released with the answer 1 gives its place back. -/
theorem Wd.Ok.released (h : W.Ok) (hl : W.lE k i g y = 0) (hh : W.h = 1) : 1 ≤ k ∧ k ≤ 3 ∧ ∃ j : Nat, i = j ∧ j < 64 ∧ (W.tab k).s j = 1 ∧ ((W.tab k).g j : Int) = g ∧ (W.rel k i g y).tab k = (W.tab k).gave j ∧ ∀ k', k' ≠ k → 1 ≤ k' → k' ≤ 3 → (W.rel k i g y).tab k' = W.tab k' := by
  obtain ⟨_, _, _, he, _⟩ := Wd.lE_zero hl
  have e : W.rel k i g y = (W.tried k i g y).back k i g := by unfold Wd.rel; rw [if_pos hl, if_pos hh]
  obtain ⟨h1, h2, j, rfl, hj, hs, hg⟩ := h.here.1 he
  refine ⟨h1, h2, j, rfl, hj, hs, hg, ?_⟩
  rw [e]
  have nF : k ≠ 1 → W.F.chk k j g ≠ 0 := fun c z => c (FD.Fb.chk_open z).1
  have nP : k ≠ 2 → W.P.chk k j g ≠ 0 := fun c z => c (BF.Po.chk_pinned z).1
  have nD : k ≠ 3 → W.D.chk k j g ≠ 0 := fun c z => c (LS.Dk.chk_is z).1
  have tF : k ≠ 1 → (W.F.closed k j g).t = W.F.t := fun c => by unfold FD.Fb.closed; rw [if_neg (nF c)]
  have tP : k ≠ 2 → (W.P.unpin k j g).t = W.P.t := fun c => by unfold BF.Po.unpin; rw [if_neg (nP c)]
  have tD : k ≠ 3 → (W.D.ret k j g).t = W.D.t := fun c => by unfold LS.Dk.ret; rw [if_neg (nD c)]
  have d : k = 1 ∨ k = 2 ∨ k = 3 := by omega
  rcases d with rfl | rfl | rfl
  · have c : W.F.chk 1 j g = 0 := (h.file rfl).1 he
    refine ⟨?_, fun k' hk b1 b2 => ?_⟩
    · show (W.F.closed 1 j g).t = W.F.t.gave j
      unfold FD.Fb.closed
      rw [if_pos c]; rfl
    · have : k' = 2 ∨ k' = 3 := by omega
      rcases this with rfl | rfl
      · exact tP (by decide)
      · exact tD (by decide)
  · have c : W.P.chk 2 j g = 0 := (h.buffer rfl).1 he
    refine ⟨?_, fun k' hk b1 b2 => ?_⟩
    · show (W.P.unpin 2 j g).t = W.P.t.gave j
      unfold BF.Po.unpin
      rw [if_pos c]; rfl
    · have : k' = 1 ∨ k' = 3 := by omega
      rcases this with rfl | rfl
      · exact tF (by decide)
      · exact tD (by decide)
  · have c : W.D.chk 3 j g = 0 := (h.lease rfl).1 he
    refine ⟨?_, fun k' hk b1 b2 => ?_⟩
    · show (W.D.ret 3 j g).t = W.D.t.gave j
      unfold LS.Dk.ret
      rw [if_pos c]; rfl
    · have : k' = 1 ∨ k' = 2 := by omega
      rcases this with rfl | rfl
      · exact tF (by decide)
      · exact tP (by decide)
theorem Wd.Ok.rel_gone (h : W.Ok) (hl : W.lE k i g y = 0) (hh : W.h = 1) : ¬ (W.rel k i g y).Here k i g := by
  obtain ⟨_, _, j, rfl, hj, hs, hg, e, _⟩ := h.released hl hh
  rw [(h.rel k j g y).here]
  rintro ⟨_, _, j', e', _, hs', _⟩
  obtain rfl : j = j' := by omega
  rw [e] at hs'
  exact gave_s _ _ hs'
theorem Wd.Ok.rel_stays (h : W.Ok) (hh : ¬ (W.lE k i g y = 0 ∧ W.h = 1)) {a b c : Int} : (W.rel k i g y).Here a b c ↔ W.Here a b c := by
  rw [(h.rel k i g y).here, h.here]
  rw [Wd.rel_no_tab hh]
end
end Go.Proofs.YtpinmiplefidpaaGreatDoor
