/- The walk of BufsEnds: it returns true for every input. -/
import Derived.Test.YtjhgckaaaonbiaaUw
import Derived.Test.YtjhgckaaaonbiaaUx
namespace Go.Proofs.Ytjhgckaaaonbiaa
open Go.RowKit

/-- Ids below a are retired, id a is free with generation y, the ones above with generation z. -/
structure Rt (T : Tb) (n a y z : Nat) : Prop where
  n_eq : T.n = n
  lo : ∀ j, j < a → T.s j = 2
  st : ∀ j, a ≤ j → j < n → T.s j = 0
  at_ : a < n → T.g a = y
  hi : ∀ j, a < j → j < n → T.g j = z
theorem Rt.fresh (n g : Nat) : Rt (fresh n g) n 0 g g :=
  ⟨rfl, fun _ h => absurd h (Nat.not_lt_zero _), fun _ _ _ => rfl, fun h => if_pos h, fun _ _ h => if_pos h⟩
theorem Rt.free {T : Tb} {n a y z : Nat} (h : Rt T n a y z) (ha : a < n) : ∃ r, T.free = a :: r :=
  free_head (fun j hj => by rw [h.lo j hj]; omega) (h.st a (Nat.le_refl _) ha) (by rw [h.n_eq]; exact ha)
theorem Rt.step {T : Tb} {n a y z : Nat} (h : Rt T n a y z) (ha : a < n) (hy : y < 4294967295) : Rt ((T.took a).gave a) n a (y + 1) z := by
  have hg : (T.took a).g a = y := h.at_ ha
  have e : (T.took a).gave a = ⟨T.n, put (put T.s a 1) a 0, put T.g a (y + 1)⟩ := by
    unfold Tb.gave; rw [if_neg (by rw [hg]; omega), hg]; rfl
  refine ⟨(Tb.gave_n _ a).trans h.n_eq, fun j hj => ?_, fun j h1 h2 => ?_, fun _ => ?_, fun j h1 h2 => ?_⟩
  · show ((T.took a).gave a).s j = 2
    rw [e]; simp only []; rw [put_other (by omega), put_other (by omega)]; exact h.lo j hj
  · show ((T.took a).gave a).s j = 0
    rw [e]; simp only []
    by_cases c : j = a
    · rw [c, put_same]
    · rw [put_other c, put_other c]; exact h.st j h1 h2
  · show ((T.took a).gave a).g a = y + 1
    rw [e]; simp only []; rw [put_same]
  · show ((T.took a).gave a).g j = z
    rw [e]; simp only []; rw [put_other (by omega)]; exact h.hi j h1 h2
theorem Rt.last {T : Tb} {n a z : Nat} (h : Rt T n a 4294967295 z) (ha : a < n) : Rt ((T.took a).gave a) n (a + 1) z z := by
  have hg : (T.took a).g a = 4294967295 := h.at_ ha
  have e : (T.took a).gave a = ⟨T.n, put (put T.s a 1) a 2, T.g⟩ := by
    unfold Tb.gave; rw [if_pos hg]; rfl
  refine ⟨(Tb.gave_n _ a).trans h.n_eq, fun j hj => ?_, fun j h1 h2 => ?_, fun h1 => ?_, fun j h1 h2 => ?_⟩
  · show ((T.took a).gave a).s j = 2
    rw [e]; simp only []
    by_cases c : j = a
    · rw [c, put_same]
    · rw [put_other c, put_other c]; exact h.lo j (by omega)
  · show ((T.took a).gave a).s j = 0
    rw [e]; simp only []
    rw [put_other (by omega), put_other (by omega)]; exact h.st j (by omega) h2
  · show ((T.took a).gave a).g (a + 1) = z
    rw [e]; exact h.hi (a + 1) (by omega) h1
  · show ((T.took a).gave a).g j = z
    rw [e]; exact h.hi j (by omega) h2
/-- In the inner loop: i of q generations have gone. -/
def RtI (T : Tb) (n a i q : Nat) : Prop := (i < q ∧ Rt T n a (4294967296 - q + i) (4294967296 - q)) ∨ (i = q ∧ Rt T n (a + 1) (4294967296 - q) (4294967296 - q))
theorem RtI.next {T : Tb} {n a i q : Nat} (h : RtI T n a i q) (hi : i < q) (hq : q ≤ 10) (ha : a < n) : RtI ((T.took a).gave a) n a (i + 1) q := by
  rcases h with ⟨_, h⟩ | ⟨h, _⟩
  · by_cases c : i + 1 = q
    · have e : 4294967296 - q + i = 4294967295 := by omega
      rw [e] at h
      exact .inr ⟨c, h.last ha⟩
    · exact .inl ⟨by omega, h.step ha (by omega)⟩
  · omega

set_option maxHeartbeats 2000000 in
set_option maxRecDepth 100000 in
theorem uEnd_walk (x0 x1 : Int) (w : World) (h00 : 0 ≤ x0) (h01 : x0 ≤ 255) (h10 : 0 ≤ x1) (h11 : x1 ≤ 255) :
    Calls Try.prog 7 #[.int .u8 x0, .int .u8 x1] w fun e w' => e = .returned (.bool true) ∧ Below w.heap.size w w' := by
  obtain ⟨q, hq⟩ : ∃ q : Nat, (1 : Int) + x1 % 6 = q := ⟨(1 + x1 % 6).toNat, by omega⟩
  obtain ⟨g, hg⟩ : ∃ g : Nat, x1 % 6 = g := ⟨(x1 % 6).toNat, by omega⟩
  have hgq : q = g + 1 := by omega
  subst hgq
  clear hq
  have hg2 : (g : Int) ≤ 5 := by omega
  have hg1 : (0 : Int) ≤ g := by omega
  obtain ⟨n, hn⟩ : ∃ n : Nat, 1 + x0 % 64 = (n : Int) := ⟨(1 + x0 % 64).toNat, by omega⟩
  have hn2 : (n : Int) ≤ 64 := by omega
  have hn1 : (1 : Int) ≤ n := by omega
  have h5 : 0 ≤ x0 % 64 ∧ x0 % 64 ≤ 63 := by omega
  obtain ⟨h6, h7⟩ := h5
  have e1 : (4294967295 : Int) - g = ((4294967296 - (g + 1) : Nat) : Int) := by omega
  have NW := Lib.hid (pnew_ok n 100 (4294967296 - (g + 1)) w (by omega) (by omega) (by omega) (by omega) (by decide) (by decide))
  rw [← e1, show ((100 : Nat) : Int) = 100 from rfl] at NW
  clear e1
  go_enter Try.func7, Try.ntmps7
  go_wp2_with (go_at_call 11; refine NW.out.mono ?_; rintro e w1 ⟨b, rfl, hf⟩; have HF := Lib.hid hf; clear hf)
  clear NW
  have R0 : Hid (∃ s k P, PSt w w1 b s k P ∧ P.room = 100 ∧ Rt P.t n 0 (4294967296 - (g + 1)) (4294967296 - (g + 1))) := by
    obtain ⟨s, k, h⟩ := PSt.new HF.out
    exact ⟨s, k, _, h, rfl, Rt.fresh _ _⟩
  clear HF
  go_loopw [9] (fun v wr => ∃ a : Nat, a ≤ n ∧ v = .int .i64 a ∧ Hid (∃ s k P, PSt w wr b s k P ∧ P.room = 100 ∧ Rt P.t n a (4294967296 - (g + 1)) (4294967296 - (g + 1)))) (fun v _ => n - (intOf v).toNat)
  case atStart => exact ⟨0, Nat.zero_le _, rfl, R0.out⟩
  case round =>
    obtain ⟨a, ha, rfl, HR⟩ := hrel
    clear R0
    by_cases hlt : a < n
    · go_wp2
      have RI0 : Hid (∃ s k P, PSt w wr b s k P ∧ P.room = 100 ∧ RtI P.t n a 0 (g + 1)) := by
        obtain ⟨s, k, P, h1, h3, h2⟩ := HR.out
        exact ⟨s, k, P, h1, h3, .inl ⟨by omega, h2⟩⟩
      clear HR
      go_loopw [10] (fun v wr => ∃ i : Nat, i ≤ g + 1 ∧ v = .int .u32 i ∧ Hid (∃ s k P, PSt w wr b s k P ∧ P.room = 100 ∧ RtI P.t n a i (g + 1))) (fun v _ => g + 1 - (intOf v).toNat)
      case atStart => exact ⟨0, Nat.zero_le _, rfl, RI0.out⟩
      case round =>
        obtain ⟨i, hi, rfl, HI⟩ := hrel
        clear RI0
        by_cases hli : i ≤ g
        · obtain ⟨s, k, P, hS, hP, hI⟩ := HI.out
          have hRt : Rt P.t n a (4294967296 - (g + 1) + i) (4294967296 - (g + 1)) := by
            rcases hI with ⟨_, h⟩ | ⟨h, _⟩
            · exact h
            · omega
          obtain ⟨r, hfree⟩ := hRt.free hlt
          have hheld := held_none (T := P.t) fun j hj => by
            by_cases c : j < a
            · rw [hRt.lo j c]; omega
            · rw [hRt.st j (by omega) (by rw [← hRt.n_eq]; exact hj)]; omega
          have hc0 := Po.can_ok (P := P) (x := 1) (by decide) (by decide) (by rw [Po.used_none hheld, hP]; decide) hfree
          obtain ⟨o5, o1, o2, o3⟩ := Po.pin_zero hc0 hfree
          have han : a < P.t.n := by rw [hRt.n_eq]; exact hlt
          rw [hRt.at_ hlt] at o3
          obtain ⟨y, hy⟩ : ∃ y, 4294967296 - (g + 1) + i = y := ⟨_, rfl⟩
          have hc := Po.chk_put (P := P) han 1
          rw [hRt.at_ hlt, hy] at hc
          rw [hy] at o3
          have e9 : (4294967295 : Int) - g + i = y := by omega
          have hy1 : (y : Int) ≤ 4294967295 := by omega
          have hy0 : (0 : Int) ≤ y := by omega
          have OP := Lib.hid (pin_s (1 : Nat) 2 a y 0 hS (by rw [o1]; rfl) (by rw [o2]) (by rw [o3]) hc0)
          rw [o5, show (((1 : Nat) : Int)).toNat = 1 from rfl] at OP
          have CL : Hid (∀ W, PSt w W b s k (P.put a 1) → Calls Try.prog 16 #[.pointer (some ⟨b, 0, none⟩), .agg #[.int .i64 2, .int .i64 a, .int .u32 y]] W fun e w' => e = .returned (.int .i64 0) ∧ Hid (∃ s k P, PSt w w' b s k P ∧ P.room = 100 ∧ RtI P.t n a (i + 1) (g + 1))) := fun W hW =>
            (unpin_s 2 a y 0 hW hc).mono fun e w' ⟨h1, h2, _⟩ => ⟨h1, s, k, _, h2.out, by rw [Po.unpin_of hc]; exact hP, by rw [Po.unpin_of hc]; exact hI.next (by omega) (by omega) hlt⟩
          clear hS hI hRt hfree o1 o2 o3 o5 hc hc0 hheld han HI hy hP
          have hci : (i : Int) ≤ g := by omega
          go_wp2_with (first
            | (go_at_call 13; refine OP.out.mono ?_; rintro e w5 ⟨rfl, S5, _⟩)
            | (go_at_call 16; refine (CL.out _ (S5.out.quiet ((Below.refl _ _).alloc (Nat.le_refl _) _))).mono ?_; rintro e w6 ⟨rfl, H6⟩))
          go_roundw
          case rel => exact ⟨i + 1, by omega, by go_num, H6.out⟩
          case measure => simp [intOf]; omega
        · obtain rfl : i = g + 1 := by omega
          have hci : ¬ ((g + 1 : Nat) : Int) ≤ g := by omega
          go_wp2
          go_roundw
          case rel =>
            refine ⟨a + 1, by omega, by go_num, ?_⟩
            obtain ⟨s, k, P, h1, h3, h2⟩ := HI.out
            rcases h2 with ⟨h, _⟩ | ⟨_, h⟩
            · omega
            · exact ⟨s, k, P, h1, h3, h⟩
          case measure => simp [intOf]; omega
    · obtain rfl : a = n := by omega
      obtain ⟨s, k, P, hS, hP, hR⟩ := HR.out
      have hfull := free_none (T := P.t) fun j hj => by rw [hR.lo j (by rw [← hR.n_eq]; exact hj)]; omega
      have hheld := held_none (T := P.t) fun j hj => by rw [hR.lo j (by rw [← hR.n_eq]; exact hj)]; omega
      have hc0 := Po.can_none (P := P) (x := 1) (by decide) (by decide) hfull
      obtain ⟨o5, o1, o2, o3⟩ := Po.pin_ne (P := P) (x := (1 : Nat)) (by rw [hc0]; decide)
      have OP := Lib.hid (pin_s (1 : Nat) 0 0 0 4 hS (by rw [o1]; rfl) (by rw [o2]; rfl) (by rw [o3]; rfl) hc0)
      rw [o5] at OP
      have LN : Hid (∀ W, PSt w W b s k P → Calls Try.prog 23 #[.pointer (some ⟨b, 0, none⟩)] W fun e w' => e = .returned (.int .i64 0) ∧ Hid (PSt w w' b s k P) ∧ Hid (Below W.heap.size W w')) := fun W hW => len_s 0 hW (by rw [hheld]; rfl)
      have UN : Hid (∀ W, PSt w W b s k P → Calls Try.prog 21 #[.pointer (some ⟨b, 0, none⟩)] W fun e w' => e = .returned (.int .i64 0) ∧ Hid (PSt w w' b s k P) ∧ Hid (Below W.heap.size W w')) := fun W hW => used_s 0 hW (Po.used_none hheld)
      clear hS hR hfull hheld o1 o2 o3 o5 HR hc0 hP
      go_wp2_with (first
        | (go_at_call 13; refine OP.out.mono ?_; rintro e w5 ⟨rfl, S5, _⟩; have S6 := Lib.hid (S5.out.quiet ((Below.refl _ _).alloc (Nat.le_refl _) (.cells #[.int .i64 0, .int .i64 0, .int .u32 0] 34))))
        | (go_at_call 23; refine (LN.out _ S6.out).mono ?_; rintro e w7 ⟨rfl, S7, _⟩)
        | (go_at_call 21; refine (UN.out _ S7.out).mono ?_; rintro e w8 ⟨rfl, S8, _⟩)
        | (go_at_call 10; refine (works_ok _).mono ?_; rintro e w' ⟨rfl, hb⟩; have H9 := Lib.hid (bel2 S8.out.bel hb); clear hb))
      go_ret
      exact ⟨rfl, H9.out⟩
end Go.Proofs.Ytjhgckaaaonbiaa
