/- What has been acquired so far, and what became of it. -/
import Derived.Test.YtpinmiplefidpaaGreatDoorOta
namespace Go.Proofs.YtpinmiplefidpaaGreatDoor
open Go.RowKit

def oOf (a : LG.Att) : Ro := ⟨a.k, a.i, a.g⟩
/-- U: a world; G: what has been acquired, in order. -/
structure Hist (U : Wd) (G : List Ro) : Prop where
  nd : G.Pairwise (· ≠ ·)
  old : ∀ o ∈ G, 1 ≤ o.k ∧ o.k ≤ 3 ∧ ∃ j : Nat, o.i = j ∧ j < 64 ∧ o.g ≤ (U.tab o.k).g j ∧ ((U.tab o.k).s j = 0 → o.g < (U.tab o.k).g j)
  there : ∀ o : Ro, U.Here o.k o.i o.g → o ∈ G
  gone : ∀ o ∈ G, U.Here o.k o.i o.g ∨ ∃ a ∈ U.B, oOf a = o ∧ a.n = 1
  tried : ∀ a ∈ U.B, oOf a ∈ G
  done : ∀ a ∈ U.B, a.n = 1 → ¬ U.Here a.k a.i a.g
  once : U.B.Pairwise fun a b => oOf a = oOf b → a.n ≠ 1
section
variable {U V : Wd} {G : List Ro} {k i g x y : Int}
theorem Wd.Ok.here_same (hU : U.Ok) (hV : V.Ok) (h : ∀ k, 1 ≤ k → k ≤ 3 → V.tab k = U.tab k) {a b c : Int} : V.Here a b c ↔ U.Here a b c := by
  rw [hV.here, hU.here]
  constructor
  · rintro ⟨h1, h2, h3⟩
    rw [h a h1 h2] at h3
    exact ⟨h1, h2, h3⟩
  · rintro ⟨h1, h2, h3⟩
    refine ⟨h1, h2, ?_⟩
    rw [h a h1 h2]
    exact h3
theorem Hist.same (H : Hist U G) (hU : U.Ok) (hV : V.Ok) (h : ∀ k, 1 ≤ k → k ≤ 3 → V.tab k = U.tab k) (hB : V.B = U.B) : Hist V G := by
  have e : ∀ {a b c : Int}, V.Here a b c ↔ U.Here a b c := hU.here_same hV h
  refine ⟨H.nd, fun o ho => ?_, fun o ho => H.there o (e.1 ho), fun o ho => ?_, by rw [hB]; exact H.tried, fun a ha h1 h2 => ?_, by rw [hB]; exact H.once⟩
  · obtain ⟨h1, h2, h3⟩ := H.old o ho
    refine ⟨h1, h2, ?_⟩
    rw [h _ h1 h2]
    exact h3
  · rw [e, hB]; exact H.gone o ho
  · rw [hB] at ha
    exact H.done a ha h1 (e.1 h2)
/-- What is acquired is new. -/
theorem Hist.new (H : Hist U G) (hU : U.Ok) (ha : U.aE k x = 0) : (⟨U.aK k x, U.aI k x, U.aG k x⟩ : Ro) ∉ G := by
  obtain ⟨h1, h2, j, hj, hs, e1, e2, e3, _⟩ := hU.acquired ha
  intro hm
  obtain ⟨_, _, j', ej, _, _, hlt⟩ := H.old _ hm
  dsimp only at ej hlt
  rw [e2] at ej
  obtain rfl : j = j' := by omega
  rw [e1, e3] at hlt
  have := hlt hs
  omega
theorem Hist.acq (H : Hist U G) (hU : U.Ok) (ha : U.aE k x = 0) : Hist (U.acq k x) (G ++ [⟨U.aK k x, U.aI k x, U.aG k x⟩]) := by
  have hnew := H.new hU ha
  have hV := hU.acq k x
  have hB : (U.acq k x).B = U.B := Wd.acq_B
  have hh := hU.acq_here ha
  obtain ⟨h1, h2, j, hj, hs, e1, e2, e3, e4, e5⟩ := hU.acquired ha
  rw [e1, e2, e3] at hnew hh ⊢
  -- what is there now
  have hfwd : ∀ {a b c : Int}, U.Here a b c → (U.acq k x).Here a b c := by
    intro a b c h
    obtain ⟨q1, q2, j', rfl, q3, q4, q5⟩ := hU.here.1 h
    refine hV.here.2 ⟨q1, q2, j', rfl, q3, ?_, ?_⟩
    · by_cases c : a = k
      · subst c
        rw [e4]
        by_cases d : j' = j
        · subst d; simp [Tb.took, put_same]
        · show put _ j 1 j' = 1
          rw [put_other d]; exact q4
      · rw [e5 a c q1 q2]; exact q4
    · by_cases c : a = k
      · subst c; rw [e4]; exact q5
      · rw [e5 a c q1 q2]; exact q5
  have hbwd : ∀ {a b c : Int}, (U.acq k x).Here a b c → U.Here a b c ∨ (a = k ∧ b = j ∧ c = (U.tab k).g j) := by
    intro a b c h
    obtain ⟨q1, q2, j', rfl, q3, q4, q5⟩ := hV.here.1 h
    by_cases c' : a = k
    · subst c'
      rw [e4] at q4 q5
      by_cases d : j' = j
      · subst d
        exact .inr ⟨rfl, rfl, q5.symm⟩
      · refine .inl (hU.here.2 ⟨q1, q2, j', rfl, q3, ?_, q5⟩)
        rw [← q4]
        exact (put_other d).symm
    · rw [e5 a c' q1 q2] at q4 q5
      exact .inl (hU.here.2 ⟨q1, q2, j', rfl, q3, q4, q5⟩)
  refine ⟨?_, fun o ho => ?_, fun o ho => ?_, fun o ho => ?_, fun a h => ?_, fun a h h3 h4 => ?_, by rw [hB]; exact H.once⟩
  · refine List.pairwise_append.2 ⟨H.nd, List.pairwise_singleton _ _, fun a ha' b hb => ?_⟩
    obtain rfl := List.mem_singleton.1 hb
    rintro rfl
    exact hnew ha'
  · rcases List.mem_append.1 ho with ho | ho
    · obtain ⟨q1, q2, j', r1, r2, r3, r4⟩ := H.old o ho
      refine ⟨q1, q2, j', r1, r2, ?_⟩
      by_cases c : o.k = k
      · rw [c, e4]
        rw [c] at r3 r4
        refine ⟨r3, fun z => ?_⟩
        by_cases d : j' = j
        · subst d
          simp [Tb.took, put_same] at z
        · refine r4 ?_
          rw [← z]
          exact (put_other d).symm
      · rw [e5 _ c q1 q2]
        exact ⟨r3, r4⟩
    · obtain rfl := List.mem_singleton.1 ho
      refine ⟨h1, h2, j, rfl, hj, ?_, fun z => ?_⟩
      · dsimp only; rw [e4]; exact Int.le_refl _
      · dsimp only at z; rw [e4] at z; simp [Tb.took, put_same] at z
  · rcases hbwd ho with h | ⟨z1, z2, z3⟩
    · exact List.mem_append_left _ (H.there o h)
    · refine List.mem_append_right _ (List.mem_singleton.2 ?_)
      exact Ro.ext' z1 z2 z3
  · rcases List.mem_append.1 ho with ho | ho
    · rw [hB]
      rcases H.gone o ho with h | h
      · exact .inl (hfwd h)
      · exact .inr h
    · obtain rfl := List.mem_singleton.1 ho
      exact .inl hh
  · rw [hB] at h
    exact List.mem_append_left _ (H.tried a h)
  · rw [hB] at h
    rcases hbwd h4 with z | ⟨z1, z2, z3⟩
    · exact H.done a h h3 z
    · refine hnew ?_
      have := H.tried a h
      rwa [show oOf a = (⟨k, j, (U.tab k).g j⟩ : Ro) from Ro.ext' z1 z2 z3] at this
theorem Hist.rel (H : Hist U G) (hU : U.Ok) (hl : U.lE k i g y = 0) : Hist (U.rel k i g y) G := by
  have hV := hU.rel k i g y
  have hB := Wd.rel_B hl
  obtain ⟨_, _, _, he, _⟩ := Wd.lE_zero hl
  have hin : (⟨k, i, g⟩ : Ro) ∈ G := H.there ⟨k, i, g⟩ he
  have hone : ∀ b ∈ U.B, oOf b = (⟨k, i, g⟩ : Ro) → b.n ≠ 1 := by
    intro b hb e h1
    have := H.done b hb h1
    injection e with z1 z2 z3
    rw [z1, z2, z3] at this
    exact this he
  have honce : (U.B ++ [U.att k i g y]).Pairwise fun a b => oOf a = oOf b → a.n ≠ 1 := by
    refine List.pairwise_append.2 ⟨H.once, List.pairwise_singleton _ _, fun a ha b hb e => ?_⟩
    obtain rfl := List.mem_singleton.1 hb
    exact hone a ha e
  have htried : ∀ a ∈ U.B ++ [U.att k i g y], oOf a ∈ G := by
    intro a ha
    rcases List.mem_append.1 ha with ha | ha
    · exact H.tried a ha
    · obtain rfl := List.mem_singleton.1 ha
      exact hin
  by_cases hh : U.h = 1
  · obtain ⟨h1, h2, j, rfl, hj, hs, hg, e4, e5⟩ := hU.released hl hh
    have hbwd : ∀ {a b c : Int}, (U.rel k j g y).Here a b c → U.Here a b c ∧ ¬ (a = k ∧ b = j) := by
      intro a b c h
      obtain ⟨q1, q2, j', rfl, q3, q4, q5⟩ := hV.here.1 h
      by_cases c' : a = k
      · subst c'
        rw [e4] at q4 q5
        by_cases d : j' = j
        · subst d
          exact absurd q4 (gave_s _ _)
        · rw [FD.gave_s_other d] at q4
          rw [FD.gave_g_other d] at q5
          exact ⟨hU.here.2 ⟨q1, q2, j', rfl, q3, q4, q5⟩, fun z => d (by omega)⟩
      · rw [e5 a c' q1 q2] at q4 q5
        exact ⟨hU.here.2 ⟨q1, q2, j', rfl, q3, q4, q5⟩, fun z => c' z.1⟩
    have hfwd : ∀ {a b c : Int}, U.Here a b c → ¬ (a = k ∧ b = j) → (U.rel k j g y).Here a b c := by
      intro a b c h hn
      obtain ⟨q1, q2, j', rfl, q3, q4, q5⟩ := hU.here.1 h
      refine hV.here.2 ⟨q1, q2, j', rfl, q3, ?_, ?_⟩
      · by_cases c' : a = k
        · subst c'
          have d : j' ≠ j := fun z => hn ⟨rfl, by rw [z]⟩
          rw [e4, FD.gave_s_other d]; exact q4
        · rw [e5 a c' q1 q2]; exact q4
      · by_cases c' : a = k
        · subst c'
          have d : j' ≠ j := fun z => hn ⟨rfl, by rw [z]⟩
          rw [e4, FD.gave_g_other d]; exact q5
        · rw [e5 a c' q1 q2]; exact q5
    refine ⟨H.nd, fun o ho => ?_, fun o ho => H.there o (hbwd ho).1, fun o ho => ?_, by rw [hB]; exact htried, fun a h h3 h4 => ?_, by rw [hB]; exact honce⟩
    · obtain ⟨q1, q2, j', r1, r2, r3, r4⟩ := H.old o ho
      refine ⟨q1, q2, j', r1, r2, ?_⟩
      by_cases c : o.k = k
      · rw [c, e4]
        rw [c] at r3 r4
        by_cases d : j' = j
        · subst d
          have hgm := (hU.tok k).gm j'
          unfold Tb.gave
          split
          · exact ⟨r3, fun z => by simp [put_same] at z⟩
          · simp only [put_same]
            exact ⟨by omega, fun _ => by omega⟩
        · rw [FD.gave_s_other d, FD.gave_g_other d]
          exact ⟨r3, r4⟩
      · rw [e5 _ c q1 q2]
        exact ⟨r3, r4⟩
    · rw [hB]
      rcases H.gone o ho with h | ⟨a, ha, hb⟩
      · by_cases c : o.k = k ∧ o.i = j
        · refine .inr ⟨U.att k j g y, by simp, ?_, hh⟩
          obtain ⟨_, _, j', z1, _, _, z2⟩ := hU.here.1 h
          have : j' = j := by omega
          subst this
          rw [c.1, hg] at z2
          exact Ro.ext' c.1.symm c.2.symm z2
        · exact .inl (hfwd h c)
      · exact .inr ⟨a, List.mem_append_left _ ha, hb⟩
    · rw [hB] at h
      rcases List.mem_append.1 h with h | h
      · exact H.done a h h3 (hbwd h4).1
      · obtain rfl := List.mem_singleton.1 h
        exact (hbwd h4).2 ⟨rfl, rfl⟩
  · have hn : ¬ (U.lE k i g y = 0 ∧ U.h = 1) := fun c => hh c.2
    have e : ∀ {a b c : Int}, (U.rel k i g y).Here a b c ↔ U.Here a b c := hU.rel_stays hn
    refine ⟨H.nd, fun o ho => ?_, fun o ho => H.there o (e.1 ho), fun o ho => ?_, by rw [hB]; exact htried, fun a h h3 h4 => ?_, by rw [hB]; exact honce⟩
    · rw [Wd.rel_no_tab hn]; exact H.old o ho
    · rw [hB, e]
      rcases H.gone o ho with h | ⟨a, ha, hb⟩
      · exact .inl h
      · exact .inr ⟨a, List.mem_append_left _ ha, hb⟩
    · rw [hB] at h
      rcases List.mem_append.1 h with h | h
      · exact H.done a h h3 (e.1 h4)
      · obtain rfl := List.mem_singleton.1 h
        exact hh h3
/-- A step that acquires nothing. -/
theorem Hist.does (H : Hist U G) (hU : U.Ok) (s : Sp) (hV : (U.does s).Ok) (hs : U.dB s = false) : Hist (U.does s) G := by
  unfold Wd.does at hV ⊢
  by_cases d0 : s.d = 0
  · rw [if_pos d0] at hV ⊢
    have ha : U.aE s.k s.a ≠ 0 := by
      intro e
      unfold Wd.dB at hs
      simp [d0, e] at hs
    exact H.same hU hV (fun k _ _ => Wd.acq_no_tab ha k) Wd.acq_B
  rw [if_neg d0] at hV ⊢
  by_cases d1 : s.d = 1
  · rw [if_pos d1] at hV ⊢
    by_cases hl : U.lE s.o.k s.o.i s.o.g s.y = 0
    · exact H.rel hU hl
    · rw [Wd.rel_no hl]; exact H
  rw [if_neg d1] at hV ⊢
  by_cases d2 : s.d = 2
  · rw [if_pos d2] at hV ⊢
    refine H.same hU hV (fun k h1 h2 => ?_) rfl
    have : k = 1 ∨ k = 2 ∨ k = 3 := by omega
    rcases this with rfl | rfl | rfl
    · rfl
    · rfl
    · exact LS.Dk.renew_t _ _ _ _ _ _
  rw [if_neg d2] at hV ⊢
  by_cases d3 : s.d = 3
  · rw [if_pos d3] at hV ⊢
    refine H.same hU hV (fun k _ _ => ?_) Wd.tick_B
    unfold Wd.tick
    split <;> rfl
  rw [if_neg d3] at hV ⊢
  by_cases d4 : s.d = 4
  · rw [if_pos d4] at hV ⊢
    exact H.same hU hV (fun _ _ _ => rfl) rfl
  · rw [if_neg d4]; exact H
theorem Hist.zero : Hist (wfresh 1) [] := by
  have hB : (wfresh 1).B = [] := rfl
  have hno : ∀ a b c : Int, ¬ (wfresh 1).Here a b c := by
    intro a b c h
    rcases h with e | e | e
    · obtain ⟨_, j, _, _, q, _⟩ := FD.Fb.chk_open e
      exact absurd q (by show (0 : Nat) ≠ 1; decide)
    · obtain ⟨_, j, _, _, q, _⟩ := BF.Po.chk_pinned e
      exact absurd q (by show (0 : Nat) ≠ 1; decide)
    · obtain ⟨_, j, _, _, q, _⟩ := LS.Dk.chk_is e
      exact absurd q (by show (0 : Nat) ≠ 1; decide)
  exact ⟨List.Pairwise.nil, fun o h => (by cases h), fun o h => absurd h (hno _ _ _), fun o h => (by cases h), fun a h => (by rw [hB] at h; cases h), fun a h => (by rw [hB] at h; cases h), by rw [hB]; exact List.Pairwise.nil⟩
/-- A resource is there, or an attempt took it: never both. -/
theorem Hist.iff (H : Hist U G) {o : Ro} (ho : o ∈ G) : U.Here o.k o.i o.g ↔ ¬ ∃ a ∈ U.B, oOf a = o ∧ a.n = 1 := by
  constructor
  · rintro h ⟨a, ha, rfl, h1⟩
    exact H.done a ha h1 h
  · intro h
    rcases H.gone o ho with h2 | h2
    · exact h2
    · exact absurd h2 h
end
end Go.Proofs.YtpinmiplefidpaaGreatDoor
