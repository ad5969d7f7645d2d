/- The walk of HeapEnds: it returns true for every input. -/
import Derived.Test.YtfnhkapbfgofkaaWw
import Derived.Test.YtfnhkapbfgofkaaWx
namespace Go.Proofs.Ytfnhkapbfgofkaa
open Go.RowKit

/-- The heap in the inner loop. -/
def EIn (w W : World) (b G n i k : Nat) : Prop := ∃ p t H, HSt w W b p t H ∧ H.t = EAt G n i k
set_option maxHeartbeats 4000000 in
set_option maxRecDepth 100000 in
theorem wEnd_walk (x0 x1 : Int) (w : World) (h00 : 0 ≤ x0) (h01 : x0 ≤ 255) (h10 : 0 ≤ x1) (h11 : x1 ≤ 255) :
    Calls Try.prog 8 #[.int .u8 x0, .int .u8 x1] w fun e w' => e = .returned (.bool true) ∧ Below w.heap.size w w' := by
  obtain ⟨G, hG⟩ : ∃ G : Nat, x1 % 4 = G := ⟨(x1 % 4).toNat, by omega⟩
  have hG2 : (G : Int) ≤ 3 := by omega
  have hG1 : (0 : Int) ≤ G := by omega
  obtain ⟨n, hn⟩ : ∃ n : Nat, 1 + x0 = (n : Int) := ⟨(1 + x0).toNat, by omega⟩
  have hn2 : (n : Int) ≤ 256 := by omega
  have hn1 : (1 : Int) ≤ n := by omega
  have e1 : (4294967295 : Int) - G = ((4294967295 - G : Nat) : Int) := by omega
  have NW := Lib.hid (hnew_ok n (4294967295 - G) w (by omega) (by omega) (by omega) (by omega))
  rw [← e1] at NW
  clear e1
  go_enter Try.func8, Try.ntmps8
  go_wp2_with (go_at_call 12; refine NW.out.mono ?_; rintro e w1 ⟨b, rfl, hf⟩; have HF := Lib.hid hf; clear hf)
  clear NW
  have R0 : Hid (EIn w w1 b G n 0 0) := by
    obtain ⟨p, t, h⟩ := HSt.new HF.out
    exact ⟨p, t, _, h, by rw [EAt.go (Nat.zero_le _), ← ET.zero]; rfl⟩
  clear HF
  go_loopw [9] (fun v wr => ∃ a : Nat, a ≤ n ∧ v = .int .i64 a ∧ Hid (EIn w wr b G n a 0)) (fun v _ => n - (intOf v).toNat)
  case atStart => exact ⟨0, Nat.zero_le _, rfl, R0.out⟩
  case round =>
    obtain ⟨a, ha, rfl, HR⟩ := hrel
    clear R0
    by_cases hlt : a < n
    · go_wp2
      go_loopw [10] (fun v wr => ∃ k : Nat, k ≤ G + 1 ∧ v = .int .u32 k ∧ Hid (EIn w wr b G n a k)) (fun v _ => G + 1 - (intOf v).toNat)
      case atStart => exact ⟨0, Nat.zero_le _, rfl, HR.out⟩
      case round =>
        obtain ⟨k, hk, rfl, HI⟩ := hrel
        clear HR
        by_cases hli : k ≤ G
        · obtain ⟨p, t, H, hS, hT⟩ := HI.out
          rw [EAt.go hli] at hT
          obtain ⟨r, hfree⟩ := ET.free (G := G) (k := k) hlt
          rw [← hT] at hfree
          have han : a < H.t.n := by rw [hT]; exact hlt
          obtain ⟨y, hy⟩ : ∃ y, 4294967295 - G + k = y := ⟨_, rfl⟩
          have hga : H.t.g a = y := by rw [hT, ET.gen hlt, hy]
          have e9 : (4294967295 : Int) - G + k = y := by omega
          have hy1 : (y : Int) ≤ 4294967295 := by omega
          have hy0 : (0 : Int) ≤ y := by omega
          have MK : Hid (∀ hd : Bool, Calls Try.prog 14 #[.pointer (some ⟨b, 0, none⟩), .int .i64 0, .bool hd] wr fun e w' => e = .returned (.tuple #[.agg #[.int .i64 a, .int .u32 y], .int .i64 0]) ∧ HSt w w' b p t ⟨H.t.took a, putO H.o a (mk 0 hd)⟩) := fun hd => by
            obtain ⟨m1, m2, m3⟩ := Hp.make_yes (H := H) (n := 0) (hd := hd) (mk_poss (by decide) (by decide) (fun _ => rfl)) hfree
            rw [hga] at m2
            refine (make_s 0 hd _ _ ⟨by decide, by decide⟩ hS m2 m1).mono ?_
            rintro e w' ⟨h1, h2, _⟩
            rw [m3] at h2
            exact ⟨h1, h2⟩
          have LF : Hid (∀ (hd : Bool) W, HSt w W b p t ⟨H.t.took a, putO H.o a (mk 0 hd)⟩ → Calls Try.prog 30 #[.pointer (some ⟨b, 0, none⟩)] W fun e w' => e = .returned (.int .i64 ((n : Int) - a - 1)) ∧ Below W.heap.size W w') := fun hd W hW => by
            have e2 : (n : Int) - a - 1 = ((n - a - 1 : Nat) : Int) := by omega
            rw [e2]
            exact left_s _ hW (by show (H.t.took a).free.length = _; rw [hT]; exact ET.left hlt)
          have FR : Hid (∀ (hd : Bool) W, HSt w W b p t ⟨H.t.took a, putO H.o a (mk 0 hd)⟩ → Calls Try.prog 16 #[.pointer (some ⟨b, 0, none⟩), .agg #[.int .i64 a, .int .u32 y]] W fun e w' => e = .returned (.int .i64 0) ∧ Hid (EIn w w' b G n a (k + 1)) ∧ Below w.heap.size w w') := fun hd W hW => by
            have hc : Hp.chk ⟨H.t.took a, putO H.o a (mk 0 hd)⟩ ((a : Int), (y : Int)) = 0 := Hp.chk_is (H := ⟨H.t.took a, putO H.o a (mk 0 hd)⟩) han (put_same _ _ _) (by rw [← hga]; rfl)
            refine (free_s a y 0 hW hc).mono ?_
            rintro e w' ⟨h1, h2, _⟩
            refine ⟨h1, ⟨p, t, _, h2, ?_⟩, h2.bel⟩
            show (H.t.took a).given a y = _
            have hc2 : (H.t.took a).chk a y = 0 := hc
            unfold Tb.given
            rw [if_pos hc2, Int.toNat_natCast, hT]
            exact EAt.step hlt hli (by omega)
          have hki : (k : Int) ≤ G := by omega
          have hbw : Hid (Below w.heap.size w wr) := hS.bel
          generalize hq : (((k : Int) % 2 == 0) : Bool) = hd0 at *
          clear hS hT hfree han hga hy HI
          go_wp2_with (first
            | (go_at_call 14; refine (MK.out _).mono ?_; rintro e w5 ⟨rfl, hS5⟩; have S5 := Lib.hid (hS5.quiet (bel_new w5 (.cells #[.int .i64 a, .int .u32 y] 34))); have bx := Bk.new w5 34 #[.int .i64 a, .int .u32 y]; have BX := Lib.hid bx; clear hS5 bx)
            | (go_at_call 30; refine (LF.out _ _ S5.out).mono ?_; rintro e w6 ⟨rfl, hb⟩; have S6 := Lib.hid (S5.out.quiet hb); have bx := BX.out.below hb; have c0 := bx.cell 0; have c1 := bx.cell 1; clear hb bx)
            | (go_at_call 16; refine (FR.out _ _ S6.out).mono ?_; rintro e w7 ⟨rfl, H7, _⟩))
          go_roundw
          case rel => exact ⟨k + 1, by omega, by go_num, H7.out⟩
          case measure => simp [intOf]; omega
        · obtain rfl : k = G + 1 := by omega
          have hci : ¬ ((G + 1 : Nat) : Int) ≤ G := by omega
          have H1 : Hid (EIn w wr b G n (a + 1) 0) := by
            obtain ⟨p, t, H, hS, hT⟩ := HI.out
            exact ⟨p, t, H, hS, by rw [hT, EAt.stop, EAt.go (Nat.zero_le _)]⟩
          clear HI
          go_wp2
          go_roundw
          case rel => exact ⟨a + 1, by omega, by go_num, H1.out⟩
          case measure => simp [intOf]; omega
    · obtain rfl : a = n := by omega
      obtain ⟨p, t, H, hS, hT⟩ := HR.out
      rw [EAt.go (Nat.zero_le _)] at hT
      obtain ⟨d1, d2⟩ := ET.done (G := G) (n := a)
      rw [← hT] at d1 d2
      obtain ⟨m1, m2, m3⟩ := Hp.make_full (H := H) (n := 0) (hd := false) (mk_poss (by decide) (by decide) (fun _ => rfl)) d1
      have HS := Lib.hid hS
      have M1 := Lib.hid (And.intro m1 (And.intro m2 m3))
      have D1 : Hid (H.t.free.length = 0 ∧ H.t.held.length = 0) := by rw [d1, d2]; exact ⟨rfl, rfl⟩
      clear hS hT d1 d2 m1 m2 m3 HR
      go_wp2_with (first
        | (go_at_call 14; refine (make_s 0 false (0, 0) 4 ⟨by decide, by decide⟩ HS.out M1.out.2.1 M1.out.1).mono ?_; rintro e w5 ⟨rfl, hS5, _⟩; rw [M1.out.2.2] at hS5; have S5 := Lib.hid (hS5.quiet (bel_new w5 (.cells #[.int .i64 0, .int .u32 0] 34))); clear hS5)
        | (go_at_call 30; refine (left_s 0 S5.out D1.out.1).mono ?_; rintro e w6 ⟨rfl, hb⟩; have S6 := Lib.hid (S5.out.quiet hb); clear hb)
        | (go_at_call 29; refine (len_s 0 S6.out D1.out.2).mono ?_; rintro e w7 ⟨rfl, hb⟩; have S7 := Lib.hid (S6.out.quiet hb); clear hb)
        | (go_at_call 11; refine (works_ok _).mono ?_; rintro e w8 ⟨rfl, hb⟩; have S8 := Lib.hid (S7.out.quiet hb); clear hb))
      go_ret
      exact ⟨rfl, S8.out.bel⟩
end Go.Proofs.Ytfnhkapbfgofkaa
