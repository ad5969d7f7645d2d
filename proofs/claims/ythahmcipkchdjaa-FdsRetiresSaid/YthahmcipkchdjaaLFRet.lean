/- The walk of FdsRetires: it returns true for every input. -/
import Derived.Test.YthahmcipkchdjaaFw
import Derived.Test.YthahmcipkchdjaaFx
namespace Go.Proofs.Ythahmcipkchdjaa
open Go.RowKit

/-- Ids below a are retired, id a is free with generation y, the ones above with generation z. -/
structure Rt (F : Fb) (n a y z : Nat) : Prop where
  n_eq : F.t.n = n
  lo : ∀ j, j < a → F.t.s j = 2
  st : ∀ j, a ≤ j → j < n → F.t.s j = 0
  at_ : a < n → F.t.g a = y
  hi : ∀ j, a < j → j < n → F.t.g j = z
theorem Rt.fresh (n g : Nat) : Rt (ffresh n g) n 0 g g :=
  ⟨rfl, fun _ h => absurd h (Nat.not_lt_zero _), fun _ _ _ => rfl, fun h => if_pos h, fun _ _ h => if_pos h⟩
theorem Rt.free {F : Fb} {n a y z : Nat} (h : Rt F n a y z) (ha : a < n) : ∃ r, F.t.free = a :: r :=
  free_head (fun j hj => by rw [h.lo j hj]; omega) (h.st a (Nat.le_refl _) ha) (by rw [h.n_eq]; exact ha)
theorem Rt.step {F : Fb} {n a y z x : Nat} (h : Rt F n a y z) (ha : a < n) (hy : y < 4294967295) : Rt ((F.opened a x).close a) n a (y + 1) z := by
  have hg : (F.t.took a).g a = y := h.at_ ha
  have e : (F.t.took a).gave a = ⟨F.t.n, put (put F.t.s a 1) a 0, put F.t.g a (y + 1)⟩ := by
    unfold Tb.gave; rw [if_neg (by rw [hg]; omega), hg]; rfl
  refine ⟨((F.opened a x).close_n a).trans h.n_eq, fun j hj => ?_, fun j h1 h2 => ?_, fun _ => ?_, fun j h1 h2 => ?_⟩
  · show ((F.t.took a).gave a).s j = 2
    rw [e]; simp only []; rw [put_other (by omega), put_other (by omega)]; exact h.lo j hj
  · show ((F.t.took a).gave a).s j = 0
    rw [e]; simp only []
    by_cases c : j = a
    · rw [c, put_same]
    · rw [put_other c, put_other c]; exact h.st j h1 h2
  · show ((F.t.took a).gave a).g a = y + 1
    rw [e]; simp only []; rw [put_same]
  · show ((F.t.took a).gave a).g j = z
    rw [e]; simp only []; rw [put_other (by omega)]; exact h.hi j h1 h2
theorem Rt.last {F : Fb} {n a z x : Nat} (h : Rt F n a 4294967295 z) (ha : a < n) : Rt ((F.opened a x).close a) n (a + 1) z z := by
  have hg : (F.t.took a).g a = 4294967295 := h.at_ ha
  have e : (F.t.took a).gave a = ⟨F.t.n, put (put F.t.s a 1) a 2, F.t.g⟩ := by
    unfold Tb.gave; rw [if_pos hg]; rfl
  refine ⟨((F.opened a x).close_n a).trans h.n_eq, fun j hj => ?_, fun j h1 h2 => ?_, fun h1 => ?_, fun j h1 h2 => ?_⟩
  · show ((F.t.took a).gave a).s j = 2
    rw [e]; simp only []
    by_cases c : j = a
    · rw [c, put_same]
    · rw [put_other c, put_other c]; exact h.lo j (by omega)
  · show ((F.t.took a).gave a).s j = 0
    rw [e]; simp only []
    rw [put_other (by omega), put_other (by omega)]; exact h.st j (by omega) h2
  · show ((F.t.took a).gave a).g (a + 1) = z
    rw [e]; exact h.hi (a + 1) (by omega) h1
  · show ((F.t.took a).gave a).g j = z
    rw [e]; exact h.hi j (by omega) h2
/-- In the inner loop: i of q generations have gone. -/
def RtI (F : Fb) (n a i q : Nat) : Prop := (i < q ∧ Rt F n a (4294967296 - q + i) (4294967296 - q)) ∨ (i = q ∧ Rt F n (a + 1) (4294967296 - q) (4294967296 - q))
theorem RtI.next {F : Fb} {n a i q x : Nat} (h : RtI F n a i q) (hi : i < q) (hq : q ≤ 10) (ha : a < n) : RtI ((F.opened a x).close a) n a (i + 1) q := by
  rcases h with ⟨_, h⟩ | ⟨h, _⟩
  · by_cases c : i + 1 = q
    · have e : 4294967296 - q + i = 4294967295 := by omega
      rw [e] at h
      exact .inr ⟨c, h.last ha⟩
    · exact .inl ⟨by omega, h.step ha (by omega)⟩
  · omega

set_option maxHeartbeats 2000000 in
set_option maxRecDepth 100000 in
theorem fRet_walk (x0 x1 : Int) (w : World) (h00 : 0 ≤ x0) (h01 : x0 ≤ 255) (h10 : 0 ≤ x1) (h11 : x1 ≤ 255) :
    Calls Try.prog 6 #[.int .u8 x0, .int .u8 x1] w fun e w' => e = .returned (.bool true) ∧ Below w.heap.size w w' := by
  obtain ⟨q, hq⟩ : ∃ q : Nat, (1 : Int) + x1 % 10 = q := ⟨(1 + x1 % 10).toNat, by omega⟩
  obtain ⟨s, hs⟩ : ∃ s : Nat, x0 % 8 = s := ⟨(x0 % 8).toNat, by omega⟩
  have hq1 : (1 : Int) ≤ q := by omega
  have hq2 : (q : Int) ≤ 10 := by omega
  have hs1 : (0 : Int) ≤ s := by omega
  have hs2 : (s : Int) ≤ 7 := by omega
  have hr : 0 ≤ x1 % 10 ∧ x1 % 10 ≤ 9 := by omega
  obtain ⟨hr0, hr1⟩ := hr
  have e1 : (4294967295 : Int) - q + 1 = ((4294967296 - q : Nat) : Int) := by omega
  obtain ⟨n, hn⟩ : ∃ n, 1 + s = n := ⟨_, rfl⟩
  have hn2 : (n : Int) ≤ 8 := by omega
  have hn1 : (0 : Int) ≤ n := by omega
  have BG : Hid (∀ W, Calls Try.prog 21 #[.int .u8 s, .int .u32 (4294967295 - q + 1)] W (BgP n (4294967296 - q) W)) := fun W => by
    have := begun_ok s (4294967296 - q) W (by omega) (by omega)
    rw [show 1 + s % 64 = n by omega, show max (4294967296 - q) 1 = 4294967296 - q by omega] at this
    rw [e1]; exact this
  clear e1
  go_enter Try.func6, Try.ntmps6
  go_wp2_with (go_at_call 21; refine (BG.out _).mono ?_; rintro e w1 ⟨b, k, m, rfl, S0⟩)
  clear BG
  have R0 : Hid (∃ F, FSt w w1 b k m F ∧ Rt F n 0 (4294967296 - q) (4294967296 - q)) := ⟨_, S0.out, Rt.fresh _ _⟩
  clear S0 hn
  go_loopw [33] (fun v wr => ∃ a : Nat, a ≤ n ∧ v = .int .i64 a ∧ Hid (∃ F, FSt w wr b k m F ∧ Rt F n a (4294967296 - q) (4294967296 - q))) (fun v _ => n - (intOf v).toNat)
  case atStart => exact ⟨0, Nat.zero_le _, rfl, R0.out⟩
  case round =>
    obtain ⟨a, ha, rfl, HR⟩ := hrel
    by_cases hlt : a < n
    · go_wp2
      have RI0 : Hid (∃ F, FSt w wr b k m F ∧ RtI F n a 0 q) := by
        obtain ⟨F, h1, h2⟩ := HR.out
        exact ⟨F, h1, .inl ⟨by omega, h2⟩⟩
      go_loopw [37] (fun v wr => ∃ i : Nat, i ≤ q ∧ v = .int .i64 i ∧ Hid (∃ F, FSt w wr b k m F ∧ RtI F n a i q)) (fun v _ => q - (intOf v).toNat)
      case atStart => exact ⟨0, Nat.zero_le _, rfl, RI0.out⟩
      case round =>
        obtain ⟨i, hi, rfl, HI⟩ := hrel
        by_cases hli : i < q
        · obtain ⟨F, hS, hI⟩ := HI.out
          have hRt : Rt F n a (4294967296 - q + i) (4294967296 - q) := by
            rcases hI with ⟨_, h⟩ | ⟨h, _⟩
            · exact h
            · omega
          obtain ⟨r, hfree⟩ := hRt.free hlt
          obtain ⟨o1, o2, o3, o4, o5⟩ := Fb.opn_at hfree i
          have han : a < F.t.n := by rw [hRt.n_eq]; exact hlt
          rw [hRt.at_ hlt] at o3
          obtain ⟨y, hy⟩ : ∃ y, 4294967296 - q + i = y := ⟨_, rfl⟩
          have hc := Fb.chk_opened hS.f.ok han i
          rw [hRt.at_ hlt, hy] at hc
          rw [hy] at o3
          have e9 : (4294967295 : Int) - ((q : Int) - 1 - i) = y := by omega
          have hy1 : (y : Int) ≤ 4294967295 := by omega
          have hy0 : (0 : Int) ≤ y := by omega
          have OP := Lib.hid (open_s i 1 a y 0 hS (by omega) (by rw [o1]; rfl) (by rw [o2]) (by rw [o3]) o4)
          rw [o5] at OP
          have hrg : RgO 1 a y := ⟨by omega, by omega, by omega, by omega, by omega, by omega⟩
          have CL : Hid (∀ W, FSt w W b k m (F.opened a i) → Calls Try.prog 16 #[.pointer (some ⟨b, 0, none⟩), .agg #[.int .i64 1, .int .i64 a, .int .u32 y]] W fun e w' => e = .returned (.int .i64 0) ∧ Hid (∃ F, FSt w w' b k m F ∧ RtI F n a (i + 1) q)) := fun W hW =>
            (close_s 1 a y 0 hW hrg hc).mono fun e w' ⟨h1, h2, _⟩ => ⟨h1, _, h2.out, by rw [Fb.closed_of hc]; exact hI.next hli (by omega) hlt⟩
          clear hS hI hRt hfree o1 o2 o3 o4 o5 hc hrg han HI hy HR RI0 R0
          go_wp2_with (first
            | (go_at_call 14; refine OP.out.mono ?_; rintro e w5 ⟨rfl, S5, _⟩)
            | (go_at_call 16; refine (CL.out _ (S5.out.quiet ((Below.refl _ _).alloc (Nat.le_refl _) _))).mono ?_; rintro e w6 ⟨rfl, H6⟩))
          go_roundw
          case rel => exact ⟨i + 1, by omega, by go_num, H6.out⟩
          case measure => simp [intOf]; omega
        · obtain rfl : i = q := by omega
          go_wp2
          go_roundw
          case rel =>
            refine ⟨a + 1, by omega, by go_num, ?_⟩
            obtain ⟨F, h1, h2⟩ := HI.out
            rcases h2 with ⟨h, _⟩ | ⟨_, h⟩
            · omega
            · exact ⟨F, h1, h⟩
          case measure => simp [intOf]; omega
    · obtain rfl : a = n := by omega
      obtain ⟨F, hS, hR⟩ := HR.out
      have hfull := free_none (T := F.t) fun j hj => by rw [hR.lo j (by rw [← hR.n_eq]; exact hj)]; omega
      have hheld := held_none (T := F.t) fun j hj => by rw [hR.lo j (by rw [← hR.n_eq]; exact hj)]; omega
      obtain ⟨o1, o2, o3, o4, o5⟩ := Fb.opn_full hfull 0
      have OP := Lib.hid (open_s 0 0 0 0 4 hS (by omega) (by rw [o1]; rfl) (by rw [o2]; rfl) (by rw [o3]; rfl) o4)
      rw [o5] at OP
      have LN : Hid (∀ W, FSt w W b k m F → Calls Try.prog 30 #[.pointer (some ⟨b, 0, none⟩)] W fun e w' => e = .returned (.int .i64 0) ∧ W = w') := fun W hW => by
        have := flen_ok b k m F W hW.f
        rw [hheld] at this
        exact this
      clear hS hR hfull hheld o1 o2 o3 o4 o5 HR R0
      go_wp2_with (first
        | (go_at_call 14; refine OP.out.mono ?_; rintro e w5 ⟨rfl, S5, _⟩; have S6 := Lib.hid (S5.out.quiet ((Below.refl _ _).alloc (Nat.le_refl _) (.cells #[.int .i64 0, .int .i64 0, .int .u32 0] 25))))
        | (go_at_call 30; refine (LN.out _ S6.out).mono ?_; rintro e w' ⟨rfl, rfl⟩)
        | (go_at_call 10; refine (works_ok _).mono ?_; rintro e w' ⟨rfl, hb⟩; have H9 := Lib.hid (bel2 S6.out.bel hb); clear hb))
      go_ret
      exact ⟨rfl, H9.out⟩
end Go.Proofs.Ythahmcipkchdjaa
