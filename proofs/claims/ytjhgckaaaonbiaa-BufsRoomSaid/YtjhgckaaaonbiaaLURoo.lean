/- The walk of BufsRoom: it returns true for every input. -/
import Derived.Test.YtjhgckaaaonbiaaUs
import Derived.Test.YtjhgckaaaonbiaaUq
namespace Go.Proofs.Ytjhgckaaaonbiaa
open Go.RowKit

set_option maxHeartbeats 1000000 in
theorem uRoo_long (x0 x1 x3 : Int) (a : Option Addr) (len cap : Nat) (w : World) (hl : 200 < len) :
    Calls Try.prog 6 #[.int .u8 x0, .int .u16 x1, .slice a len cap, .int .u16 x3] w fun e w' => e = .returned (.bool true) ∧ Below w.heap.size w w' := by
  have h : (200 : Int) < len := by omega
  clear hl
  go_enter Try.func6, Try.ntmps6
  go_wp2_with (go_at_call 10; refine (works_ok _).mono ?_; rintro e w' ⟨rfl, hb⟩; have HB := Lib.hid hb; clear hb)
  go_ret
  exact ⟨rfl, HB.out⟩

/-- The three ways of Pin on a pool that is not over. -/
theorem room_cases {P : Po} {n r g : Nat} (h : Kp P n r g) (X : Int) (h1 : 1 ≤ X) (h2 : X ≤ 65536) :
    (((P.t.held.length : Int) < n ∧ (P.used : Int) + X ≤ r) ∧ P.can X = 0 ∧ P.pK X = 2 ∧ P.pI X = P.lo ∧ (P.pin X).used = P.used + X.toNat ∧ (P.pin X).t.held.length = P.t.held.length + 1) ∨
    ((((P.t.held.length : Int) < n ∧ ¬ (P.used : Int) + X ≤ r) ∨ ¬ (P.t.held.length : Int) < n) ∧ P.can X = 4 ∧ P.pK X = 0 ∧ P.pI X = 0 ∧ P.pG X = 0 ∧ P.pin X = P) := by
  have hst := h.ok.t.st
  obtain ⟨f1, _⟩ := Po.full_iff h.s2 hst
  have hn := h.n_eq
  have hr := h.r_eq
  rcases Po.can_cases P X with ⟨h3, _⟩ | ⟨_, _, h3, h4⟩ | ⟨_, _, h3, h4, h5⟩ | ⟨_, _, h3, i, t, h4, h5⟩
  · omega
  · obtain ⟨e1, e2, e3, e4⟩ := Po.pin_ne (P := P) (x := X) (by omega)
    refine .inr ⟨?_, h4, e2, e3, e4, e1⟩
    by_cases c : (P.t.held.length : Int) < n
    · exact .inl ⟨c, by omega⟩
    · exact .inr c
  · obtain ⟨e1, e2, e3, e4⟩ := Po.pin_ne (P := P) (x := X) (by omega)
    exact .inr ⟨.inr (by have := f1.1 h4; omega), h5, e2, e3, e4, e1⟩
  · obtain ⟨e1, e2, e3, e4⟩ := Po.pin_zero h5 h4
    obtain ⟨i1, i2⟩ := Tb.free_lt h4
    have hne : ¬ P.t.free = [] := by rw [h4]; exact List.cons_ne_nil _ _
    refine .inl ⟨⟨?_, by omega⟩, h5, e2, ?_, ?_, ?_⟩
    · have : ¬ ¬ P.t.held.length < P.t.n := fun c => hne (f1.2 c)
      omega
    · rw [e3]; unfold Po.lo; rw [h4]
    · rw [e1]; exact Po.used_put i1 (by omega) _
    · rw [e1]; exact Po.len_put i1 i2 _
set_option maxHeartbeats 8000000 in
set_option maxRecDepth 100000 in
theorem uRoo_short (x0 x1 : Int) (a : Option Addr) (len cap : Nat) (cl : Nat → Bool) (num : Nat → Nat) (M : Nat) (w : World) (h00 : 0 ≤ x0) (h01 : x0 ≤ 255) (h10 : 0 ≤ x1) (h11 : x1 ≤ 65535) (hl : len ≤ 200) (hu : Turns w a len cl num) (hM : M ≤ 65535) :
    Calls Try.prog 6 #[.int .u8 x0, .int .u16 x1, .slice a len cap, .int .u16 M] w fun e w' => e = .returned (.bool true) ∧ Below w.heap.size w w' := by
  obtain ⟨n, hn⟩ : ∃ n : Nat, 1 + x0 % 64 = (n : Int) := ⟨(1 + x0 % 64).toNat, by omega⟩
  obtain ⟨r, hr⟩ : ∃ r : Nat, 1 + x1 % 4000 = (r : Int) := ⟨(1 + x1 % 4000).toNat, by omega⟩
  have FI : Hid (∀ W, Below w.heap.size w W → Calls Try.prog 24 #[.int .u8 x0, .int .u16 x1, .int .u32 1, .slice a len cap] W (FilV (runP (pf0 x0 x1 1) cl num len) W)) := fun W hW =>
    filled_ok x0 x1 1 1 a len cap cl num W h00 h01 h10 h11 (.inl ⟨rfl, rfl⟩) (by decide) (by omega) (hu.below hW)
  have hl2 : ¬ (200 : Int) < len := by omega
  have e0 : pf0 x0 x1 1 = pfresh n r 1 := by unfold pf0; rw [hn, hr]; simp
  rw [e0] at FI
  have KP := (Kp.fresh (n := n) (r := r) (f := 1) (by omega) (by omega) (by decide) (by decide) (by omega)).run cl num len (by omega)
  obtain ⟨P, hP⟩ : ∃ P, runP (pfresh n r 1) cl num len = P := ⟨_, rfl⟩
  rw [hP] at FI KP
  obtain ⟨y, hy⟩ : ∃ y, M % 4100 = y := ⟨_, rfl⟩
  have hmod : (M : Int).tmod 4100 = (y : Int) := by rw [← hy]; exact tmod_nat M 4100
  have hy2 : (y : Int) ≤ 4099 := by omega
  have hM2 : (M : Int) ≤ 65535 := by omega
  have hn2 : (n : Int) ≤ 64 := by omega
  have hr2 : (r : Int) ≤ 4000 := by omega
  have h5 : 0 ≤ x0 % 64 ∧ x0 % 64 ≤ 63 ∧ 0 ≤ x1 % 4000 ∧ x1 % 4000 ≤ 3999 := by omega
  obtain ⟨h6, h7, h8, h9⟩ := h5
  have LS := Lib.hid (Po.lo_spec KP.s2 KP.ok.t.st)
  have hHn := (Po.full_iff KP.s2 KP.ok.t.st).2
  have hUr := KP.used
  rw [KP.n_eq] at hHn
  rw [KP.r_eq] at hUr
  have AH : Hid (∀ (j i : Nat), P.t.held[j]? = some i → P.all[j]? = some (Ro.mk 2 i (P.t.g i))) := fun j i h => Po.all_held h
  have HLN : Hid (P.all.length = P.t.held.length) := P.all_len
  have hcs := room_cases KP (1 + (y : Int)) (by omega) (by omega)
  obtain ⟨U, hU⟩ : ∃ U, P.used = U := ⟨_, rfl⟩
  obtain ⟨H, hH⟩ : ∃ H, P.t.held.length = H := ⟨_, rfl⟩
  have HUH := Lib.hid (And.intro hU hH)
  rw [hU, hH] at hcs
  rw [hU] at hUr
  rw [hH] at hHn HLN LS
  have hUr2 : (U : Int) ≤ r := by omega
  have hHn2 : (H : Int) ≤ n := by omega
  have hlo := LS.out.1
  obtain ⟨lo, hlo2⟩ : ∃ lo, P.lo = lo := ⟨_, rfl⟩
  rw [hlo2] at hcs LS hlo
  have hlo3 : (lo : Int) ≤ H := by omega
  have hwr : IntKind.i64.wrap ((U : Int) + (1 + y)) = U + (1 + y) := by rw [IntKind.wrap_i64]; omega
  clear hu hP hl KP e0 hy hU hH hlo2 hM hHn hUr
  rcases hcs with ⟨⟨hc1, hc2⟩, c1, c2, c3, c4, c5⟩ | ⟨hc0, c1, c2, c3, c4, c5⟩
  · have UN : Hid (∀ W b s k, PSt w W b s k (P.pin (1 + (y : Int))) → Calls Try.prog 21 #[.pointer (some ⟨b, 0, none⟩)] W fun e w' => e = .returned (.int .i64 ((U : Int) + (1 + y))) ∧ Hid (PSt w w' b s k (P.pin (1 + (y : Int)))) ∧ Hid (Below W.heap.size W w')) := fun W b s k hW => by
      have := used_s _ hW c4
      rw [show ((U + (1 + (y : Int)).toNat : Nat) : Int) = U + (1 + y) by omega] at this
      exact this
    have LN : Hid (∀ W b s k, PSt w W b s k (P.pin (1 + (y : Int))) → Calls Try.prog 23 #[.pointer (some ⟨b, 0, none⟩)] W fun e w' => e = .returned (.int .i64 ((H : Int) + 1)) ∧ Hid (PSt w w' b s k (P.pin (1 + (y : Int)))) ∧ Hid (Below W.heap.size W w')) := fun W b s k hW => len_s _ hW c5
    obtain ⟨GG, hG⟩ : ∃ G : Int, (P.pG (1 + (y : Int)) : Int) = G := ⟨_, rfl⟩
    have PN : Hid (∀ W b s k, PSt w W b s k P → _) := fun W b s k hW => pin_s (1 + (y : Int)) 2 lo GG 0 (w0 := w) (w := W) (b := b) (s := s) (k := k) (P := P) hW (by rw [c2]; rfl) (by rw [c3]) hG c1
    clear c1 c2 c3 c4 c5 hG
    go_enter Try.func6, Try.ntmps6
    go_wp2_with (first
      | (go_at_call 24; refine (FI.out _ (Below.refl _ _)).mono ?_; rintro e w1 ⟨b, rfl, s, k, SP⟩; have S1 := Lib.hid SP; clear SP)
      | (go_at_call 21; (with_reducible refine (used_s U S1.out HUH.out.1).mono ?_); rintro e w2 ⟨rfl, S2, _⟩)
      | (go_at_call 23; (with_reducible refine (len_s H S2.out HUH.out.2).mono ?_); rintro e w3 ⟨rfl, S3, _⟩)
      | (go_at_call 22; (with_reducible refine (all_s P.all S3.out rfl).mono ?_); rintro e w4 ⟨p, c, rfl, HR, S4, _⟩; rw [HLN.out]))
    have RR := Lib.hid HR.out.rd
    clear HR
    have CX : Hid (∀ (j v : Nat), P.t.held[j]? = some v → j < H → ∃ g off, p = some ⟨g, off, none⟩ ∧ g < w4.heap.size ∧ w4.cell? ⟨g, off + j * 3 + 1, none⟩ = some (.int .i64 v)) := fun j v hv hj => by
      have hx := AH.out j v hv
      obtain ⟨g, off, h1, h2, _, h3, _⟩ := RR.out.cell (j := j) (by rw [HLN.out]; exact hj)
      rw [(List.getElem?_eq_some_iff.1 hx).2] at h3
      exact ⟨g, off, h1, h2, h3⟩
    clear RR AH
    go_loopw [15] (fun v wr => ∃ j : Nat, j ≤ lo ∧ v = .int .i64 j ∧ Hid (wr = w4)) (fun v _ => lo - (intOf v).toNat)
    case atStart => exact ⟨0, Nat.zero_le _, rfl, Lib.hid (by trivial)⟩
    case round =>
      obtain ⟨j, hj, rfl, HW⟩ := hrel
      have hww := HW.out
      subst hww
      clear HW
      by_cases hlt : j < lo
      · have hjH : (j : Int) < H := by omega
        obtain ⟨g, off, rfl, hg, hcl⟩ := CX.out j j (LS.out.2.1 j hlt) (by omega)
        have hjj : ((j : Int) == (j : Int)) = true := by simp
        go_wp2
        go_roundw
        case rel => exact ⟨j + 1, by omega, by go_num, Lib.hid (by trivial)⟩
        case measure => simp [intOf]; omega
      · obtain rfl : j = lo := by omega
        clear hlt
        have hex : (¬ (j : Int) < H) ∨ ((j : Int) < H ∧ ∃ v : Nat, ((v : Int) == (j : Int)) = false ∧ ∃ g off, p = some ⟨g, off, none⟩ ∧ g < wr.heap.size ∧ wr.cell? ⟨g, off + j * 3 + 1, none⟩ = some (.int .i64 v)) := by
          by_cases c : (j : Int) < H
          · have hjl : j < P.t.held.length := by rw [HUH.out.2]; omega
            have hv : P.t.held[j]? = some (P.t.held[j]) := List.getElem?_eq_getElem hjl
            have hne := LS.out.2.2.1 _ hv
            exact .inr ⟨c, _, beq_eq_false_iff_ne.2 (by omega), CX.out j _ hv (by omega)⟩
          · exact .inl c
        clear CX LS
        rcases hex with hex | ⟨hex, v, hvj, g, off, rfl, hg, hcl⟩
        all_goals
          go_wp2_with fail
          refine (PN.out _ _ _ _ S4.out).mono ?_
          rintro e w5 ⟨rfl, S5, _⟩
          have S6 : Hid (PSt w (w5.alloc (.cells #[.int .i64 2, .int .i64 j, .int .u32 GG] 34)) b s k (P.pin (1 + (y : Int)))) := S5.out.quiet ((Below.refl _ _).alloc (Nat.le_refl _) _)
          have OA := Lib.hid (Bk.new w5 34 #[.int .i64 2, .int .i64 j, .int .u32 GG])
          clear S5
          go_wp2_with (first
            | (go_at_call 21; (with_reducible refine (UN.out _ _ _ _ S6.out).mono ?_); rintro e w7 ⟨rfl, S7, _⟩)
            | (go_at_call 23; (with_reducible refine (LN.out _ _ _ _ S7.out).mono ?_); rintro e w8 ⟨rfl, S8, _⟩)
            | (go_at_call 10; refine (works_ok _).mono ?_; rintro e w' ⟨rfl, hb⟩; have H9 := Lib.hid (bel2 S8.out.bel hb); clear hb))
          go_ret
          exact ⟨rfl, H9.out⟩
  · have PN : Hid (∀ W b s k, PSt w W b s k P → _) := fun W b s k hW => pin_s (1 + (y : Int)) 0 0 0 4 (w0 := w) (w := W) (b := b) (s := s) (k := k) (P := P) hW (by rw [c2]; rfl) (by rw [c3]; rfl) (by rw [c4]; rfl) c1
    rw [c5] at PN
    have HC0 := Lib.hid hc0
    clear c1 c2 c3 c4 c5 hc0
    go_enter Try.func6, Try.ntmps6
    go_wp2_with (first
      | (go_at_call 24; refine (FI.out _ (Below.refl _ _)).mono ?_; rintro e w1 ⟨b, rfl, s, k, SP⟩; have S1 := Lib.hid SP; clear SP)
      | (go_at_call 21; (with_reducible refine (used_s U S1.out HUH.out.1).mono ?_); rintro e w2 ⟨rfl, S2, _⟩)
      | (go_at_call 23; (with_reducible refine (len_s H S2.out HUH.out.2).mono ?_); rintro e w3 ⟨rfl, S3, _⟩)
      | (go_at_call 22; (with_reducible refine (all_s P.all S3.out rfl).mono ?_); rintro e w4 ⟨p, c, rfl, HR, S4, _⟩; rw [HLN.out]))
    have RR := Lib.hid HR.out.rd
    clear HR
    have CX : Hid (∀ (j v : Nat), P.t.held[j]? = some v → j < H → ∃ g off, p = some ⟨g, off, none⟩ ∧ g < w4.heap.size ∧ w4.cell? ⟨g, off + j * 3 + 1, none⟩ = some (.int .i64 v)) := fun j v hv hj => by
      have hx := AH.out j v hv
      obtain ⟨g, off, h1, h2, _, h3, _⟩ := RR.out.cell (j := j) (by rw [HLN.out]; exact hj)
      rw [(List.getElem?_eq_some_iff.1 hx).2] at h3
      exact ⟨g, off, h1, h2, h3⟩
    clear RR AH
    go_loopw [15] (fun v wr => ∃ j : Nat, j ≤ lo ∧ v = .int .i64 j ∧ Hid (wr = w4)) (fun v _ => lo - (intOf v).toNat)
    case atStart => exact ⟨0, Nat.zero_le _, rfl, Lib.hid (by trivial)⟩
    case round =>
      obtain ⟨j, hj, rfl, HW⟩ := hrel
      have hww := HW.out
      subst hww
      clear HW
      by_cases hlt : j < lo
      · have hjH : (j : Int) < H := by omega
        obtain ⟨g, off, rfl, hg, hcl⟩ := CX.out j j (LS.out.2.1 j hlt) (by omega)
        have hjj : ((j : Int) == (j : Int)) = true := by simp
        go_wp2
        go_roundw
        case rel => exact ⟨j + 1, by omega, by go_num, Lib.hid (by trivial)⟩
        case measure => simp [intOf]; omega
      · obtain rfl : j = lo := by omega
        clear hlt
        have hex : (¬ (j : Int) < H) ∨ ((j : Int) < H ∧ ∃ v : Nat, ((v : Int) == (j : Int)) = false ∧ ∃ g off, p = some ⟨g, off, none⟩ ∧ g < wr.heap.size ∧ wr.cell? ⟨g, off + j * 3 + 1, none⟩ = some (.int .i64 v)) := by
          by_cases c : (j : Int) < H
          · have hjl : j < P.t.held.length := by rw [HUH.out.2]; omega
            have hv : P.t.held[j]? = some (P.t.held[j]) := List.getElem?_eq_getElem hjl
            have hne := LS.out.2.2.1 _ hv
            exact .inr ⟨c, _, beq_eq_false_iff_ne.2 (by omega), CX.out j _ hv (by omega)⟩
          · exact .inl c
        clear CX LS
        rcases hex with hex | ⟨hex, v, hvj, g, off, rfl, hg, hcl⟩
        all_goals
          rcases HC0.out with ⟨hc1, hc2⟩ | hc1
          all_goals
            clear HC0
            go_wp2_with fail
            refine (PN.out _ _ _ _ S4.out).mono ?_
            rintro e w5 ⟨rfl, S5, _⟩
            have S6 : Hid (PSt w (w5.alloc (.cells #[.int .i64 0, .int .i64 0, .int .u32 0] 34)) b s k P) := S5.out.quiet ((Below.refl _ _).alloc (Nat.le_refl _) _)
            clear S5
            go_wp2_with (first
              | (go_at_call 21; (with_reducible refine (used_s U S6.out HUH.out.1).mono ?_); rintro e w7 ⟨rfl, S7, _⟩)
              | (go_at_call 23; (with_reducible refine (len_s H S7.out HUH.out.2).mono ?_); rintro e w8 ⟨rfl, S8, _⟩)
              | (go_at_call 10; refine (works_ok _).mono ?_; rintro e w' ⟨rfl, hb⟩; have H9 := Lib.hid (bel2 S8.out.bel hb); clear hb))
            go_ret
            exact ⟨rfl, H9.out⟩
theorem uRoo_walk (x0 x1 : Int) (a : Option Addr) (len cap : Nat) (cl : Nat → Bool) (num : Nat → Nat) (x3 : Int) (w : World) (h00 : 0 ≤ x0) (h01 : x0 ≤ 255) (h10 : 0 ≤ x1) (h11 : x1 ≤ 65535) (_lc : len ≤ cap) (_cm : cap ≤ 9223372036854775807) (hu : Turns w a len cl num) (h30 : 0 ≤ x3) (h31 : x3 ≤ 65535) :
    Calls Try.prog 6 #[.int .u8 x0, .int .u16 x1, .slice a len cap, .int .u16 x3] w fun e w' => e = .returned (.bool true) ∧ Below w.heap.size w w' := by
  obtain ⟨M, rfl⟩ : ∃ M : Nat, x3 = M := ⟨x3.toNat, by omega⟩
  by_cases h : 200 < len
  · exact uRoo_long x0 x1 M a len cap w h
  · exact uRoo_short x0 x1 a len cap cl num M w h00 h01 h10 h11 (by omega) hu (by omega)
end Go.Proofs.Ytjhgckaaaonbiaa
