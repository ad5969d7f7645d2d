/- The walk of FdsRefuses where the table's size n is so: n = 64. -/
import Derived.Test.YthahmcipkchdjaaFw
import Derived.Test.YthahmcipkchdjaaFr
import Derived.Deep.CutRange
namespace Go.Proofs.Ythahmcipkchdjaa
open Go.RowKit

set_option maxHeartbeats 8000000 in
set_option maxRecDepth 1000000 in
theorem fRef_a (x0 x1 x2 : Int) (w : World) (hcase : Hid (∀ n : Nat, (n : Int) = 1 + x0 % 64 → n = 64)) (h00 : 0 ≤ x0) (h01 : x0 ≤ 255) (h10 : 0 ≤ x1) (h11 : x1 ≤ 4294967295) (h20 : 0 ≤ x2) (h21 : x2 ≤ 65535) :
    Calls Try.prog 8 #[.int .u8 x0, .int .u32 x1, .int .u16 x2] w fun e w' => e = .returned (.bool true) ∧ Below w.heap.size w w' := by
  obtain ⟨s, rfl⟩ : ∃ s : Nat, x0 = s := ⟨x0.toNat, by omega⟩
  obtain ⟨q, rfl⟩ : ∃ q : Nat, x2 = q := ⟨x2.toNat, by omega⟩
  obtain ⟨f1, hf1⟩ : ∃ f1 : Nat, min x1 4294966295 = f1 := ⟨(min x1 4294966295).toNat, by omega⟩
  obtain ⟨f, hf⟩ : ∃ f : Nat, max f1 1 = f := ⟨_, rfl⟩
  have hfb : 1 ≤ f ∧ f ≤ 4294966295 := by omega
  have HF := Lib.hid hfb
  obtain ⟨n, hn⟩ : ∃ n, 1 + s % 64 = n := ⟨_, rfl⟩
  have hnb : 1 ≤ n ∧ n ≤ 64 := by omega
  have HNb := Lib.hid hnb
  have hn1 : (1 : Int) ≤ n := by omega
  have hn2 : (n : Int) ≤ 64 := by omega
  have hff1 : (1 : Int) ≤ f := by omega
  have hff2 : (f : Int) ≤ 4294966295 := by omega
  have BG : Hid (∀ W, Calls Try.prog 21 #[.int .u8 s, .int .u32 f1] W (BgP n f W)) := fun W => by
    have := begun_ok s f1 W (by omega) (by omega)
    rw [hn, hf] at this; exact this
  obtain ⟨y, hy⟩ : ∃ y : Nat, f + 1 + q % 1000 = y := ⟨_, rfl⟩
  have REF := Lib.hid (refs7_ok (n := n) (f := f) (m := q) (y := y) hnb hfb (by omega) (by omega))
  have hyI : (f : Int) + 1 + (q : Int) % 1000 = y := by omega
  have hw1 : IntKind.i64.wrap (64 + (q : Int)) = 64 + q := by rw [IntKind.wrap_i64]; omega
  have hw2 : IntKind.i64.wrap (-1 - (q : Int)) = -1 - q := by rw [IntKind.wrap_i64]; omega
  have hw3 : IntKind.u32.wrap ((f : Int) + 1) = f + 1 := by rw [IntKind.wrap_u32]; omega
  have hw4 : IntKind.u32.wrap (q : Int) = q := by rw [IntKind.wrap_u32]; omega
  have hw5 : IntKind.u32.wrap ((f : Int) + 1 + (q : Int) % 1000) = y := by rw [IntKind.wrap_u32]; omega
  have hw7 : IntKind.u32.wrap ((f : Int) + 1 + (q : Int).tmod 1000) = y := by rw [Int.tmod_eq_emod_of_nonneg (by omega), IntKind.wrap_u32]; omega
  have hw6 : IntKind.u32.wrap ((q : Int) % 1000) = (q : Int) % 1000 := by rw [IntKind.wrap_u32]; omega
  have HCS : Hid (n = 64) := hcase.out n (by omega)
  clear hn hf hfb hnb hy hcase
  go_enter Try.func8, Try.ntmps8
  go_wp2_with (go_at_call 21; refine (BG.out _).mono ?_; rintro e w1 ⟨b, k, m, rfl, S0⟩)
  clear BG
  have OP : Hid (Calls Try.prog 14 #[.pointer (some ⟨b, 0, none⟩), .int .i64 65535] w1 fun e w' => e = .returned (.tuple #[.agg #[.int .i64 1, .int .i64 0, .int .u32 f], .int .i64 0]) ∧ FSt w w' b k m (Rone n f)) := by
    obtain ⟨r, hfree⟩ := free_head (T := (ffresh n f).t) (i := 0) (fun j hj => absurd hj (Nat.not_lt_zero _)) rfl (by have := HNb.out; show 0 < n; omega)
    obtain ⟨o1, o2, o3, o4, o5⟩ := Fb.opn_at hfree 65535
    have hg : (ffresh n f).t.g 0 = f := if_pos (show 0 < n by have := HNb.out; omega)
    exact (open_s 65535 1 0 f 0 S0.out (by omega) (by rw [o1]; rfl) (by rw [o2]; rfl) (by rw [o3, hg]) o4).mono fun e w' (h : _ ∧ _ ∧ _) => ⟨h.1, by have h3 := h.2.1.out; rw [o5] at h3; exact h3⟩
  clear S0
  go_wp2_with (go_at_call 14; refine OP.out.mono ?_; rintro e w5 ⟨rfl, S5⟩; have T5 := Lib.hid (S5.quiet ((Below.refl _ _).alloc (Nat.le_refl _) (.cells #[.int .i64 1, .int .i64 0, .int .u32 f] 25))); have A5 := Lib.hid (Bk.new w5 25 #[.int .i64 1, .int .i64 0, .int .u32 f]); clear S5)
  clear OP
  generalize w5.heap.size = A at *
  generalize w5.alloc (.cells #[.int .i64 1, .int .i64 0, .int .u32 f] 25) = w6 at *
  have LF : Hid (∀ (i g : Int) W, Calls Try.prog 32 #[.int .i64 i, .int .u32 g] W fun e w' => e = .returned (.agg #[.int .i64 1, .int .i64 i, .int .u32 g]) ∧ Below W.heap.size W w') := lfile_ok
  have FC : Hid (∀ W, Below w6.heap.size w6 W → W.cell? ⟨A, 0, none⟩ = some (.int .i64 1) ∧ W.cell? ⟨A, 1, none⟩ = some (.int .i64 0) ∧ W.cell? ⟨A, 2, none⟩ = some (.int .u32 f)) := fun W hW => cells3 (A5.out.below hW)
  have H0 : Hid (Below w6.heap.size w6 w6.drew) := bel_drew (Below.refl _ _)
  have hz0 := FC.out _ (Below.refl _ w6)
  go_region_held3 (fun W => W.cell? ⟨A, 0, none⟩ = some (.int .i64 1) ∧ W.cell? ⟨A, 1, none⟩ = some (.int .i64 0) ∧ W.cell? ⟨A, 2, none⟩ = some (.int .u32 f)) (first | (with_reducible exact hz5 _) | (with_reducible exact hz4) | (with_reducible exact hz3) | (with_reducible exact hz2) | (with_reducible exact hz1) | (exact hz0)) (first
    | (go_at_call 32; (with_reducible refine (LF.out _ _ _).mono ?_); rintro e v4 ⟨rfl, hb⟩; have H4 := Lib.hid (H3.out.trans (hb.mono H3.out.size)); have hz4 := FC.out v4 H4.out; have hz5 := fun x => FC.out (v4.alloc x) (bel_alloc H4.out x); clear hb)
    | (go_at_call 32; (with_reducible refine (LF.out _ _ _).mono ?_); rintro e v3 ⟨rfl, hb⟩; have H3 := Lib.hid (H2.out.trans (hb.mono H2.out.size)); have hz3 := FC.out v3 H3.out; clear hb)
    | (go_at_call 32; (with_reducible refine (LF.out _ _ _).mono ?_); rintro e v2 ⟨rfl, hb⟩; have H2 := Lib.hid (H1.out.trans (hb.mono H1.out.size)); have hz2 := FC.out v2 H2.out; clear hb)
    | (go_at_call 32; (with_reducible refine (LF.out _ _ _).mono ?_); rintro e v1 ⟨rfl, hb⟩; have H1 := Lib.hid (H0.out.trans (hb.mono H0.out.size)); have hz1 := FC.out v1 H1.out; clear hb))
  clear hz0 hz1 hz2 hz3 hz4 hz5 H0 H1 H2 H3 hw1 hw2 hw3 hw4 hw5 hw6 hw7
  generalize hw9 : v4.alloc _ = w9 at *
  have HT : Hid (∃ t, Bk w9 v4.heap.size t (cl7 (refs7 n f q y)).toArray ∧ t ≠ 75 ∧ t ≠ 106) := by
    rw [← hw9]
    exact ⟨_, Bk.new _ _ _, by decide, by decide⟩
  have HA9 : Hid (Below w6.heap.size w6 w9) := by
    rw [← hw9]
    exact bel_alloc H4.out _
  clear hw9 H4
  have T9 := Lib.hid (T5.out.quiet HA9.out)
  have A9 := Lib.hid (A5.out.below HA9.out)
  clear T5 A5 FC HA9
  generalize v4.heap.size = T at *
  have NMB := Lib.hid (fun (z : Ro × Int) (hz : z ∈ refs7 n f q y) W (hW : FSt w W b k m (Rone n f)) => number_s z.1.k z.1.i z.1.g 0 z.2 hW (REF.out z hz).1 (REF.out z hz).2.2.1 (REF.out z hz).2.1)
  have CLO := Lib.hid (fun (z : Ro × Int) (hz : z ∈ refs7 n f q y) W (hW : FSt w W b k m (Rone n f)) => (close_s z.1.k z.1.i z.1.g z.2 hW (REF.out z hz).1 (REF.out z hz).2.1).mono fun e w' (h : _ ∧ _ ∧ _) => (⟨h.1, by have h3 := h.2.1.out; unfold Fb.closed at h3; rw [if_neg (by rw [(REF.out z hz).2.1]; exact (REF.out z hz).2.2.2)] at h3; exact h3, hW.f, h.2.2.out⟩ : _ ∧ FSt w w' b k m (Rone n f) ∧ FW W b k m (Rone n f) ∧ Kept (FFoot b k m) W w'))
  go_wp2
  go_loopw [86] (fun u wr => ∃ j : Nat, j ≤ 7 ∧ u = .int .i64 j ∧ Hid (FSt w wr b k m (Rone n f)) ∧ Hid (Bk wr A 25 #[.int .i64 1, .int .i64 0, .int .u32 f]) ∧ Hid (∃ t, Bk wr T t (cl7 (refs7 n f q y)).toArray ∧ t ≠ 75 ∧ t ≠ 106)) (fun u _ => 7 - (intOf u).toNat)
  case atStart => exact ⟨0, by omega, rfl, T9.out, A9.out, HT.out⟩
  case round =>
    clear T9 A9 HT
    obtain ⟨j, hj, rfl, HS, HA, HT⟩ := hrel
    by_cases hlj : j < 7
    · obtain ⟨t, hT, ht1, ht2⟩ := HT.out
      have hln : j < (refs7 n f q y).length := hlj
      obtain ⟨d0, d1, d2, d3⟩ := cl7_at hT hln
      have NM := Lib.hid (NMB.out _ (List.getElem_mem hln))
      have CL := Lib.hid (CLO.out _ (List.getElem_mem hln))
      generalize (refs7 n f q y)[j] = z at *
      obtain ⟨⟨zk, zi, zg⟩, ze⟩ := z
      simp only at d0 d1 d2 d3
      have hT' := hT
      clear hT
      go_wp2_with (go_at_call 27; refine (NM.out _ (HS.out.quiet ((Below.refl _ _).alloc (Nat.le_refl _) _))).mono ?_; rintro e w10 ⟨rfl, S10, hb10⟩; have A10 := Lib.hid ((HA.out.up _).below hb10.out); have T10 := Lib.hid ((hT'.up _).below hb10.out); have E10 := Lib.hid ((Bk.new wr _ #[.int .i64 zk, .int .i64 zi, .int .u32 zg, .int .i64 ze]).below hb10.out); clear hb10)
      have e0 : w10.cell? ⟨wr.heap.size, 0, none⟩ = some (.int .i64 zk) := E10.out.cell 0
      have e1 : w10.cell? ⟨wr.heap.size, 1, none⟩ = some (.int .i64 zi) := E10.out.cell 1
      have e2 : w10.cell? ⟨wr.heap.size, 2, none⟩ = some (.int .u32 zg) := E10.out.cell 2
      have e3 : w10.cell? ⟨wr.heap.size, 3, none⟩ = some (.int .i64 ze) := E10.out.cell 3
      have CL1 := Lib.hid (CL.out w10.drew (S10.out.quiet (bel_drew (Below.refl _ _))))
      clear NM CL HS HA HT
      go_region_held3 (fun W => W.cell? ⟨wr.heap.size, 0, none⟩ = some (.int .i64 zk) ∧ W.cell? ⟨wr.heap.size, 1, none⟩ = some (.int .i64 zi) ∧ W.cell? ⟨wr.heap.size, 2, none⟩ = some (.int .u32 zg) ∧ W.cell? ⟨wr.heap.size, 3, none⟩ = some (.int .i64 ze)) (first | (exact ⟨e0, e1, e2, e3⟩) | (with_reducible exact hz1)) (first
        | (go_at_call 16; (with_reducible refine CL1.out.mono ?_); rintro e w11 ⟨rfl, hs, hf, hk⟩; have E11 := E10.out.kept (show Kept (FFoot b k m) w10 w11 from ⟨hk.os, hk.tape, hk.output, hk.size, hk.block⟩) (hf.box (show Bk w10.drew _ _ _ from E10.out) (by decide) (by decide)); have A11 := Lib.hid (A10.out.kept (show Kept (FFoot b k m) w10 w11 from ⟨hk.os, hk.tape, hk.output, hk.size, hk.block⟩) (hf.box (show Bk w10.drew _ _ _ from A10.out) (by decide) (by decide))); have T11 := Lib.hid (T10.out.kept (show Kept (FFoot b k m) w10 w11 from ⟨hk.os, hk.tape, hk.output, hk.size, hk.block⟩) (hf.box (show Bk w10.drew _ _ _ from T10.out) ht1 ht2)); have S11 := Lib.hid hs; have hz1 := cells4 E11; clear hs hf hk E11))
      all_goals
        go_wp2
        go_roundw
        case rel => exact ⟨j + 1, by omega, by go_num, S11.out, A11.out, t, T11.out, ht1, ht2⟩
        case measure => simp [intOf]; omega
    · obtain rfl : j = 7 := by omega
      clear HT NMB CLO REF
      have RG : Hid (∀ i : Nat, i ≤ 64 → RgO 1 i f) := fun i hi => ⟨by omega, by omega, by omega, by omega, by omega, by omega⟩
      have CLZ : Hid (∀ (E : Int) (i : Nat) W, FSt w W b k m (Rone n f) → i < 64 → (Rone n f).t.chk i f = E → E ≠ 0 → Calls Try.prog 16 #[.pointer (some ⟨b, 0, none⟩), .agg #[.int .i64 1, .int .i64 i, .int .u32 f]] W fun e w' => e = .returned (.int .i64 E) ∧ FSt w w' b k m (Rone n f) ∧ FW W b k m (Rone n f) ∧ Kept (FFoot b k m) W w') := fun E i W hW hi hE h0 => by
        have h2 := Rone.other (n := n) (f := f) (i := i) (g := f) ⟨rfl, by omega, by omega, by omega⟩ E hE h0
        refine (close_s 1 i f E hW (RG.out i (by omega)) h2.1).mono fun e w' h => ⟨h.1, ?_, hW.f, h.2.2.out⟩
        have h3 := h.2.1.out
        unfold Fb.closed at h3
        rw [if_neg (by rw [h2.1]; exact h0)] at h3
        exact h3
      have C3n : Hid (∀ W, FSt w W b k m (Rone n f) → n < 64 → Calls Try.prog 16 #[.pointer (some ⟨b, 0, none⟩), .agg #[.int .i64 1, .int .i64 n, .int .u32 f]] W fun e w' => e = .returned (.int .i64 3) ∧ FSt w w' b k m (Rone n f) ∧ FW W b k m (Rone n f) ∧ Kept (FFoot b k m) W w') := fun W hW h => CLZ.out 3 n W hW h (Rone.out (by omega)) (by omega)
      have C63 : Hid (∀ W, FSt w W b k m (Rone n f) → n < 64 → Calls Try.prog 16 #[.pointer (some ⟨b, 0, none⟩), .agg #[.int .i64 1, .int .i64 63, .int .u32 f]] W fun e w' => e = .returned (.int .i64 3) ∧ FSt w w' b k m (Rone n f) ∧ FW W b k m (Rone n f) ∧ Kept (FFoot b k m) W w') := fun W hW h => CLZ.out 3 63 W hW (by omega) (Rone.out (by omega)) (by omega)
      have C1 : Hid (∀ W, FSt w W b k m (Rone n f) → 1 < n → Calls Try.prog 16 #[.pointer (some ⟨b, 0, none⟩), .agg #[.int .i64 1, .int .i64 1, .int .u32 f]] W fun e w' => e = .returned (.int .i64 7) ∧ FSt w w' b k m (Rone n f) ∧ FW W b k m (Rone n f) ∧ Kept (FFoot b k m) W w') := fun W hW h => CLZ.out 7 1 W hW (by omega) (Rone.free h) (by omega)
      have OPN : Hid (∀ (x : Int) W, I64 x → (x < 0 ∨ 65535 < x) → FSt w W b k m (Rone n f) → Calls Try.prog 14 #[.pointer (some ⟨b, 0, none⟩), .int .i64 x] W fun e w' => e = .returned (.tuple #[.agg #[.int .i64 0, .int .i64 0, .int .u32 0], .int .i64 2]) ∧ Below W.heap.size W w') := fun x W h1 h2 hW => fopen_arg b k m (Rone n f) x h1 h2 W hW.f
      have ALL : Hid (∀ W, FSt w W b k m (Rone n f) → Calls Try.prog 29 #[.pointer (some ⟨b, 0, none⟩)] W fun e w' => ∃ p c, e = .returned (.slice p 1 c) ∧ Hid (RowO w' (.slice p 1 c) [⟨1, 0, (f : Int)⟩]) ∧ Below W.heap.size W w') := fun W hW =>
        (all_s [⟨1, 0, (f : Int)⟩] hW (Rone.all HNb.out.1)).mono fun e w' ⟨p, c, h1, h2, _, h4⟩ => ⟨p, c, h1, h2, h4.out⟩
      clear CLZ RG
      obtain ⟨a0, a1, a2, a3⟩ := ob_cells HA.out
      have hx1 : 64 ≤ (n : Int) := by have := HCS.out; omega
      have hx2 : 1 < (n : Int) := by have := HCS.out; omega
      go_wp2_with (first
        | (go_at_call 32; refine (LF.out _ _ _).mono ?_; rintro e v5 ⟨rfl, hb5⟩; have HS2 := Lib.hid (HS.out.quiet hb5); have HA2 := Lib.hid (HA.out.below hb5); clear HS HA hb5 a0 a1 a2 a3; have HS := HS2; have HA := HA2; clear HS2 HA2; obtain ⟨a0, a1, a2, a3⟩ := ob_cells HA.out)
        | (go_at_call 16; (first | refine (C3n.out _ HS.out (by have := HCS.out; omega)).mono ?_ | refine (C63.out _ HS.out (by have := HCS.out; omega)).mono ?_ | refine (C1.out _ HS.out (by have := HCS.out; omega)).mono ?_); rintro e v6 ⟨rfl, hs6, hf6, hk6⟩; have HS2 := Lib.hid hs6; have HA2 := Lib.hid (HA.out.kept hk6 (hf6.box HA.out (by decide) (by decide))); clear HS HA hs6 hf6 hk6 a0 a1 a2 a3; have HS := HS2; have HA := HA2; clear HS2 HA2; obtain ⟨a0, a1, a2, a3⟩ := ob_cells HA.out))
      clear C3n C63 C1 LF a0 a1 a2 a3
      have hB2 := Bk.new v6 3 #[.int .i64 (-1 - q), .int .i64 (65536 + q)]
      have B2 : Hid (∀ W (j : Nat), Below (v6.alloc (.cells #[.int .i64 (-1 - q), .int .i64 (65536 + q)] 3)).heap.size (v6.alloc (.cells #[.int .i64 (-1 - q), .int .i64 (65536 + q)] 3)) W → j < 2 → ∃ x : Int, W.cell? ⟨v6.heap.size, j, none⟩ = some (.int .i64 x) ∧ I64 x ∧ (x < 0 ∨ 65535 < x)) := fun W j hW hj => by
        have h2 := hB2.below hW
        match j, hj with
        | 0, _ => exact ⟨-1 - q, h2.cell 0, ⟨by omega, by omega⟩, .inl (by omega)⟩
        | 1, _ => exact ⟨65536 + q, h2.cell 1, ⟨by omega, by omega⟩, .inr (by omega)⟩
      have S7 := Lib.hid (HS.out.quiet ((Below.refl _ v6).alloc (Nat.le_refl _) (.cells #[.int .i64 (-1 - q), .int .i64 (65536 + q)] 3)))
      have A7 := Lib.hid (HA.out.up (.cells #[.int .i64 (-1 - q), .int .i64 (65536 + q)] 3))
      clear hB2 HS HA
      generalize v6.heap.size = T2 at *
      generalize v6.alloc (.cells #[.int .i64 (-1 - q), .int .i64 (65536 + q)] 3) = w7 at *
      go_loopw [152] (fun u wr => ∃ j : Nat, j ≤ 2 ∧ u = .int .i64 j ∧ Hid (Below w7.heap.size w7 wr)) (fun u _ => 2 - (intOf u).toNat)
      case atStart => exact ⟨0, by omega, rfl, Below.refl _ _⟩
      case round =>
        obtain ⟨j, hj, rfl, HW⟩ := hrel
        by_cases hlj : j < 2
        · obtain ⟨x, hx, hxr, hxb⟩ := B2.out _ j HW.out hlj
          have OX := Lib.hid (OPN.out x _ hxr hxb (S7.out.quiet HW.out))
          clear hxb hxr
          go_wp2_with (go_at_call 14; refine OX.out.mono ?_; rintro e v7 ⟨rfl, hb7⟩; have H7 := Lib.hid (bel2 HW.out hb7); clear hb7)
          go_roundw
          case rel => exact ⟨j + 1, by omega, by go_num, bel_alloc H7.out _⟩
          case measure => simp [intOf]; omega
        · have hj2 : 2 ≤ (j : Int) := by omega
          clear hlj hj
          have S8 := Lib.hid (S7.out.quiet HW.out)
          have A8 := Lib.hid (A7.out.below HW.out)
          clear HW S7 A7 B2
          go_wp2
          have hB2 := Bk.new wr 3 #[.int .i64 (-(q : Int)), .int .i64 (65 + q)]
          have B2 : Hid (∀ W (j : Nat), Below (wr.alloc (.cells #[.int .i64 (-(q : Int)), .int .i64 (65 + q)] 3)).heap.size (wr.alloc (.cells #[.int .i64 (-(q : Int)), .int .i64 (65 + q)] 3)) W → j < 2 → ∃ x : Int, W.cell? ⟨wr.heap.size, j, none⟩ = some (.int .i64 x) ∧ I64 x ∧ FBad x 1) := fun W j hW hj => by
            have h2 := hB2.below hW
            match j, hj with
            | 0, _ => exact ⟨-(q : Int), h2.cell 0, ⟨by omega, by omega⟩, .inl (by omega)⟩
            | 1, _ => exact ⟨65 + q, h2.cell 1, ⟨by omega, by omega⟩, .inr (.inl (by omega))⟩
          have S9 := Lib.hid (S8.out.quiet ((Below.refl _ wr).alloc (Nat.le_refl _) (.cells #[.int .i64 (-(q : Int)), .int .i64 (65 + q)] 3)))
          have A9 := Lib.hid (A8.out.up (.cells #[.int .i64 (-(q : Int)), .int .i64 (65 + q)] 3))
          clear hB2 S8 A8
          generalize wr.heap.size = T3 at *
          generalize wr.alloc (.cells #[.int .i64 (-(q : Int)), .int .i64 (65 + q)] 3) = w8 at *
          go_loopw [176] (fun u wr => ∃ j : Nat, j ≤ 2 ∧ u = .int .i64 j ∧ Hid (Below w8.heap.size w8 wr)) (fun u _ => 2 - (intOf u).toNat)
          case atStart => exact ⟨0, by omega, rfl, Below.refl _ _⟩
          case round =>
            obtain ⟨j, hj, rfl, HW⟩ := hrel
            by_cases hlj : j < 2
            · obtain ⟨x, hx, hxr, hxb⟩ := B2.out _ j HW.out hlj
              have OX := Lib.hid (fnew_bad x 1 wr hxr (by omega) hxb)
              clear hxb hxr
              go_wp2_with (go_at_call 11; refine OX.out.mono ?_; rintro e v8 ⟨rfl, rfl⟩)
              go_roundw
              case rel => exact ⟨j + 1, by omega, by go_num, HW.out⟩
              case measure => simp [intOf]; omega
            · obtain rfl : j = 2 := by omega
              have OX := Lib.hid (fnew_bad n 0 wr ⟨by omega, by omega⟩ (by omega) (.inr (.inr rfl)))
              go_wp2_with (go_at_call 11; refine OX.out.mono ?_; rintro e v8 ⟨rfl, rfl⟩)
              have S10 := Lib.hid (S9.out.quiet HW.out)
              have A10 := Lib.hid (A9.out.below HW.out)
              clear OX B2 S9 A9 HW
              have FC : Hid (∀ W, Below wr.heap.size wr W → W.cell? ⟨A, 0, none⟩ = some (.int .i64 1) ∧ W.cell? ⟨A, 1, none⟩ = some (.int .i64 0) ∧ W.cell? ⟨A, 2, none⟩ = some (.int .u32 f)) := fun W hW => cells3 (A10.out.below hW)
              have HB := Lib.hid S10.out.bel
              have AL : Hid (∀ W, Below wr.heap.size wr W → Calls Try.prog 29 #[.pointer (some ⟨b, 0, none⟩)] W fun e w' => ∃ p c, e = .returned (.slice p 1 c) ∧ Hid (RowO w' (.slice p 1 c) [⟨1, 0, (f : Int)⟩]) ∧ Below W.heap.size W w') := fun W hW => ALL.out W (S10.out.quiet hW)
              have EQ : Hid (∀ W p c g, RowO W (.slice p 1 c) [⟨1, 0, (f : Int)⟩] → Bk W g 25 #[.int .i64 1, .int .i64 0, .int .u32 f] → Calls Try.prog 28 #[.slice p 1 c, .slice (some ⟨g, 0, none⟩) 1 1] W fun e w' => e = .returned (.bool true) ∧ Below W.heap.size W w') := fun W p c g h1 h2 => equal_yes _ _ _ _ _ _ [⟨1, 0, (f : Int)⟩] W h1.rd (RdO.lit (l := [⟨1, 0, (f : Int)⟩]) h2 rfl (by simp))
              have WK : Hid (∀ W, Calls Try.prog 10 #[] W fun e w' => e = .returned (.bool true) ∧ Below W.heap.size W w') := works_ok
              clear S10 A10 ALL OPN
              have H0 : Hid (Below wr.heap.size wr wr.drew) := bel_drew (Below.refl _ _)
              have hz0 := FC.out wr (Below.refl _ _)
              have hz1 := fun o => FC.out (wr.alloc o) ((Below.refl _ wr).alloc (Nat.le_refl _) o)
              have hz2 := fun o => FC.out (wr.alloc o).drew (bel_drew ((Below.refl _ wr).alloc (Nat.le_refl _) o))
              go_region_held3 (fun W => W.cell? ⟨A, 0, none⟩ = some (.int .i64 1) ∧ W.cell? ⟨A, 1, none⟩ = some (.int .i64 0) ∧ W.cell? ⟨A, 2, none⟩ = some (.int .u32 f)) (first | (with_reducible exact hz6) | (with_reducible exact hz5) | (with_reducible exact hz4 _) | (with_reducible exact hz3) | (with_reducible exact hz1 _) | (with_reducible exact hz2 _) | (exact hz0)) (first
                | (go_at_call 10; (with_reducible refine (WK.out _).mono ?_); rintro e v12 ⟨rfl, hb⟩; have H12 := Lib.hid (H11.out.trans (hb.mono H11.out.size)); have hz6 := FC.out v12 H12.out; clear hb)
                | (go_at_call 28; (with_reducible refine (EQ.out _ _ _ _ R9.out.1 R9.out.2).mono ?_); rintro e v11 ⟨rfl, hb⟩; have H11 := Lib.hid (H10.out.trans (hb.mono H10.out.size)); have hz5 := FC.out v11 H11.out; clear hb)
                | (go_at_call 28; (refine (EQ.out _ _ _ _ (R10.out.below ((Below.refl _ _).alloc (Nat.le_refl _) _)) (Bk.new _ _ _)).mono ?_); rintro e v11 ⟨rfl, hb⟩; have H11 := Lib.hid ((bel_alloc H10.out _).trans (hb.mono (bel_alloc H10.out _).size)); have hz5 := FC.out v11 H11.out; clear hb)
                | (go_at_call 29; (with_reducible refine (AL.out _ H0.out).mono ?_); rintro e v10 ⟨p, c, rfl, R10, hb⟩; have H10 := Lib.hid (H0.out.trans (hb.mono H0.out.size)); have hz3 := FC.out v10 H10.out; have hz4 := fun o => FC.out (v10.alloc o) (bel_alloc H10.out o); clear hb)
                | (go_at_call 29; (refine (AL.out _ (bel_drew ((Below.refl _ wr).alloc (Nat.le_refl _) _))).mono ?_); rintro e v10 ⟨p, c, rfl, R10, hb⟩; have H10 := Lib.hid ((bel_drew ((Below.refl _ wr).alloc (Nat.le_refl _) _)).trans (hb.mono (bel_drew ((Below.refl _ wr).alloc (Nat.le_refl _) _)).size)); have R9 := Lib.hid (And.intro R10.out ((bk_new_drew _ _ _).below hb)); have hz3 := FC.out v10 H10.out; clear hb))
              all_goals
                go_wp2
                go_ret
                exact ⟨rfl, bel2 HB.out H12.out⟩
end Go.Proofs.Ythahmcipkchdjaa
