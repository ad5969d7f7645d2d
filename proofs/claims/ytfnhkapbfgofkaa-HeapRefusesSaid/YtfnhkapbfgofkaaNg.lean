/- The contracts of the document's Check, New, Get, Refs. -/
import Derived.Test.YtfnhkapbfgofkaaNf
namespace Go.Proofs.Ytfnhkapbfgofkaa
open Go.RowKit

set_option maxHeartbeats 1000000 in
theorem dchk_a (o : Ob) (h : NoPlace o) (w : World) : Calls Try.prog 67 #[obv o] w fun e w' => e = .returned (.int .i64 2) ∧ Below w.heap.size w w' := by
  obtain ⟨n, ⟨s0, g0⟩, ⟨s1, g1⟩, ⟨s2, g2⟩, ⟨s3, g3⟩, hd⟩ := o
  simp only [NoPlace] at h
  have h2 : n < 0 ∨ 4 < n ∨ (hd = true ∧ 0 < n ∧ n ≤ 4) := by
    rcases h with h | h | h
    · exact .inl h
    · exact .inr (.inl h)
    · by_cases h1 : n < 0
      · exact .inl h1
      · by_cases h4 : 4 < n
        · exact .inr (.inl h4)
        · exact .inr (.inr ⟨h.1, by have := h.2; omega, by omega⟩)
  clear h
  show Calls _ _ #[.agg #[.int .i64 n, .int .i64 s0, .int .u32 g0, .int .i64 s1, .int .u32 g1, .int .i64 s2, .int .u32 g2, .int .i64 s3, .int .u32 g3, .bool hd]] _ _
  rcases h2 with h2 | h2 | ⟨rfl, h2, h3⟩
  all_goals
    go_enter Try.func67, Try.ntmps67
    go_wp2
    go_ret
    exact ⟨rfl, (Below.refl _ w).alloc (Nat.le_refl _) _⟩

/-- The first k fields are as they have to be. -/
def Upto (o : Ob) (k : Nat) : Prop := ∀ j, j < k → RfOk (o.fld j) ∧ (o.n ≤ j → o.fld j = (0, 0))
theorem Upto.succ {o : Ob} {k : Nat} (h : Upto o k) (h1 : RfOk (o.fld k)) (h2 : o.n ≤ k → o.fld k = (0, 0)) : Upto o (k + 1) := fun j hj => by
  by_cases e : j = k
  · subst e; exact ⟨h1, h2⟩
  · exact h j (by omega)
set_option maxRecDepth 100000 in
set_option maxHeartbeats 4000000 in
theorem dchk_main (o : Ob) (hr : Rg o) (h0 : 0 ≤ o.n) (h4 : o.n ≤ 4) (hh : o.h = true → o.n = 0) (w : World) : Calls Try.prog 67 #[obv o] w fun e w' => e = .returned (.int .i64 (chk o)) ∧ Below w.heap.size w w' := by
  have HH := Lib.hid hh
  obtain ⟨n, hn⟩ : ∃ n, o.n = n := ⟨_, rfl⟩
  obtain ⟨hd, hhd⟩ : ∃ hd, o.h = hd := ⟨_, rfl⟩
  rw [hn] at h0 h4 hh
  rw [hhd] at hh
  have hh2 : hd = false ∨ (hd = true ∧ n = 0) := by cases hd <;> simp_all
  have HR := Lib.hid hr
  have HN := Lib.hid hn
  obtain ⟨w1, hw1⟩ : ∃ w1, w.alloc (.cells (obc o) 86) = w1 := ⟨_, rfl⟩
  have hb1 : Bk w1 w.heap.size 86 (obc o) := by rw [← hw1]; exact Bk.new _ _ _
  have hB : Below w.heap.size w w1 := by rw [← hw1]; exact (Below.refl _ w).alloc (Nat.le_refl _) _
  have HW1 := Lib.hid hw1
  have HB := Lib.hid (And.intro hb1 hB)
  have a0 := hb1.ob.1
  have a9 := hb1.ob.2.2.2.2.2.2.2.2.2
  rw [hn] at a0
  rw [hhd] at a9
  unfold obv
  unfold obc at HW1 ⊢
  rw [hn, hhd] at HW1 ⊢
  clear hh hn hhd hr hw1 hb1 hB
  rcases hh2 with rfl | ⟨rfl, rfl⟩
  all_goals
    go_enter Try.func67, Try.ntmps67
    go_upto_region 1 with fail
    rw [HW1.out]
    go_wp2
    go_loopw [3] (fun i wr => ∃ k : Nat, k ≤ 4 ∧ i = .int .i64 k ∧ Hid (Upto o k) ∧ Hid (Below w1.heap.size w1 wr)) (fun i _ => 4 - (intOf i).toNat)
    case atStart => exact ⟨0, by omega, rfl, (fun j hj => by omega), Below.refl _ _⟩
    case round =>
      obtain ⟨k, hk, rfl, HU, HBW⟩ := hrel
      clear a0 a9
      have hbk := HB.out.1.below HBW.out
      have hB2 := bel2 HB.out.2 HBW.out
      have a0 := hbk.ob.1
      rw [HN.out] at a0
      by_cases hlt : k < 4
      · have s0 := (hbk.cell (1 + k * 2)).trans (obc_s o k hlt)
        have s1 := (hbk.cell (1 + k * 2 + 1)).trans (obc_g o k hlt)
        have HRr := Lib.hid (HR.out.f k hlt)
        have hlb := hbk.lt
        have HBK := Lib.hid (And.intro hbk hB2)
        clear hbk hB2
        by_cases hok : RfOk (o.fld k)
        · have HC := Lib.hid (wrong_ok (o.fld k) HRr.out)
          rw [wrong_no hok] at HC
          have HOK := Lib.hid hok
          unfold rfv rfc at HC
          clear hok
          by_cases hkn : (k : Int) < o.n
          all_goals rw [HN.out] at hkn
          · first
            | (exfalso; omega)
            | (have HU2 : Hid (Upto o (k + 1)) := HU.out.succ HOK.out (fun h => by rw [HN.out] at h; omega)
               go_wp2_with (go_at_call 72; refine (HC.out _).mono ?_; rintro e w5 ⟨rfl, hb5⟩; have HB5 := Lib.hid (bel2 HBW.out hb5); have d0 := ((bcell hb5).1 _ _ hlb).trans a0; clear hb5)
               go_roundw
               case rel => exact ⟨k + 1, by omega, by go_num, HU2.out, HB5.out⟩
               case measure => simp [intOf]; omega)
          · by_cases hz : o.fld k = (0, 0)
            · have HU2 : Hid (Upto o (k + 1)) := HU.out.succ HOK.out (fun _ => hz)
              rw [hz] at HC s0 s1
              simp only at HC s0 s1
              clear hz
              go_wp2_with (go_at_call 72; refine (HC.out _).mono ?_; rintro e w5 ⟨rfl, hb5⟩; have HB5 := Lib.hid (bel2 HBW.out hb5); have d0 := ((bcell hb5).1 _ _ hlb).trans a0; have d1 := ((bcell hb5).1 _ _ hlb).trans s0; have d2 := ((bcell hb5).1 _ _ hlb).trans s1; have hlb5 := Nat.lt_of_lt_of_le hlb hb5.size; clear hb5)
              go_roundw
              case rel => exact ⟨k + 1, by omega, by go_num, HU2.out, HB5.out⟩
              case measure => simp [intOf]; omega
            · have HCK : Hid (chk o = 2) := chk_bad fun hp => hz (hp.em k hlt (by rw [HN.out]; omega))
              obtain ⟨⟨s, g⟩, hsg⟩ : ∃ u : Rf, o.fld k = u := ⟨_, rfl⟩
              rw [hsg] at HC s0 s1 hz
              simp only at HC s0 s1
              have hz2 : s ≠ 0 ∨ (s = 0 ∧ g ≠ 0) := by
                by_cases e : s = 0
                · exact .inr ⟨e, fun e2 => hz (by rw [e, e2])⟩
                · exact .inl e
              clear hz hsg
              rcases hz2 with hz2 | ⟨rfl, hz2⟩
              all_goals
                go_wp2_with (go_at_call 72; refine (HC.out _).mono ?_; rintro e w5 ⟨rfl, hb5⟩; have HB5 := Lib.hid (bel2 HBK.out.2 hb5); have d0 := ((bcell hb5).1 _ _ hlb).trans a0; have d1 := ((bcell hb5).1 _ _ hlb).trans s0; have d2 := ((bcell hb5).1 _ _ hlb).trans s1; have hlb5 := Nat.lt_of_lt_of_le hlb hb5.size; clear hb5)
                go_ret
                exact ⟨by rw [HCK.out]; rfl, HB5.out⟩
        · have HC := Lib.hid (wrong_ok (o.fld k) HRr.out)
          rw [wrong_yes hok] at HC
          have HCK : Hid (chk o = 2) := chk_bad fun hp => hok (hp.ok k hlt)
          unfold rfv rfc at HC
          clear hok
          go_wp2_with (go_at_call 72; refine (HC.out _).mono ?_; rintro e w5 ⟨rfl, hb5⟩; have HB5 := Lib.hid (bel2 HBK.out.2 hb5); clear hb5)
          go_ret
          exact ⟨by rw [HCK.out]; rfl, HB5.out⟩
      · obtain rfl : k = 4 := by omega
        have HCK : Hid (chk o = 0) := chk_ok ⟨by rw [HN.out]; omega, by rw [HN.out]; omega, HH.out, fun j hj => (HU.out j hj).1, fun j hj => (HU.out j hj).2⟩
        go_wp2
        go_ret
        exact ⟨by rw [HCK.out]; rfl, hB2⟩
theorem dcheck_any (o : Ob) (hr : Rg o) (w : World) : Calls Try.prog 67 #[obv o] w fun e w' => e = .returned (.int .i64 (chk o)) ∧ Below w.heap.size w w' := by
  by_cases h : NoPlace o
  · rw [chk_bad (fun hp => by
      have := hp.n0
      have := hp.n4
      rcases h with h | h | h
      · omega
      · omega
      · exact h.2 (hp.hh h.1))]
    exact dchk_a o h w
  · unfold NoPlace at h
    refine dchk_main o hr ?_ ?_ (fun hh => ?_) w
    · exact Int.not_lt.1 fun e => h (.inl e)
    · exact Int.not_lt.1 fun e => h (.inr (.inl e))
    · exact Classical.byContradiction fun e => h (.inr (.inr ⟨hh, e⟩))
end Go.Proofs.Ytfnhkapbfgofkaa
