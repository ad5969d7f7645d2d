/- The helper filled, that the statements about pools share: a pool behind turns. -/
import Derived.Test.YtjhgckaaaonbiaaUw
import Derived.Test.YtjhgckaaaonbiaaUx
import Derived.Test.YtjhgckaaaonbiaaUy
namespace Go.Proofs.Ytjhgckaaaonbiaa
open Go.RowKit

/-- A turn: a buffer is pinned, or one that is pinned is unpinned. -/
def Po.turn (P : Po) (c : Bool) (m : Nat) : Po := if c = true then P.pin ((m % 300 : Nat) : Int) else match P.t.held[m % P.t.held.length]? with | some i => P.gave i | none => P
def runP (P : Po) (c : Nat → Bool) (q : Nat → Nat) : Nat → Po
  | 0 => P
  | k + 1 => (runP P c q k).turn (c k) (q k)
theorem Po.turn_pin (P : Po) (m : Nat) : P.turn true m = P.pin ((m % 300 : Nat) : Int) := if_pos rfl
theorem Po.turn_none {P : Po} (m : Nat) (h : P.t.held.length = 0) : P.turn false m = P := by
  unfold Po.turn
  rw [if_neg (by decide), List.length_eq_zero_iff.1 h]; rfl
theorem Po.turn_some {P : Po} (m : Nat) {l i : Nat} (hl : P.t.held.length = l) (h : P.t.held[m % l]? = some i) : P.turn false m = P.unpin 2 i (P.t.g i) := by
  have h1 := Tb.held_at h
  unfold Po.turn
  rw [if_neg (by decide), hl, h, Po.unpin_held h1.1 h1.2]
theorem Po.all_held {P : Po} {j i : Nat} (h : P.t.held[j]? = some i) : P.all[j]? = some ⟨2, i, P.t.g i⟩ := by
  simp [Po.all, Tb.now, Tb.refs, h, bro]
theorem tmod_nat (m n : Nat) : (m : Int).tmod (n : Int) = ((m % n : Nat) : Int) := by
  rw [Int.tmod_eq_emod_of_nonneg (by omega)]; simp

def FilV (P : Po) (w : World) (e : Ending) (w' : World) : Prop := ∃ b, e = .returned (.pointer (some ⟨b, 0, none⟩)) ∧ Hid (∃ s k, PSt w w' b s k P)
/-- The pool that filled begins with. -/
def pf0 (x0 x1 : Int) (f : Nat) : Po := pfresh (1 + x0 % 64).toNat (1 + x1 % 4000).toNat f
set_option maxHeartbeats 4000000 in
set_option maxRecDepth 100000 in
theorem filled_ok (x0 x1 x2 : Int) (f : Nat) (a : Option Addr) (len cap : Nat) (cl : Nat → Bool) (num : Nat → Nat) (w : World) (h00 : 0 ≤ x0) (h01 : x0 ≤ 255) (h10 : 0 ≤ x1) (h11 : x1 ≤ 65535) (hcase : (x2 = 1 ∧ f = 1) ∨ (1 < x2 ∧ x2 = f)) (hf2 : f ≤ 4294967295) (hl : len ≤ 1000) (hu : Turns w a len cl num) :
    Calls Try.prog 24 #[.int .u8 x0, .int .u16 x1, .int .u32 x2, .slice a len cap] w (FilV (runP (pf0 x0 x1 f) cl num len) w) := by
  obtain ⟨n, hn⟩ : ∃ n : Nat, 1 + x0 % 64 = (n : Int) := ⟨(1 + x0 % 64).toNat, by omega⟩
  obtain ⟨r, hr⟩ : ∃ r : Nat, 1 + x1 % 4000 = (r : Int) := ⟨(1 + x1 % 4000).toNat, by omega⟩
  have hn2 : (n : Int) ≤ 64 := by omega
  have hn1 : (1 : Int) ≤ n := by omega
  have hr2 : (r : Int) ≤ 4000 := by omega
  have hr1 : (1 : Int) ≤ r := by omega
  have h5 : 0 ≤ x0 % 64 ∧ x0 % 64 ≤ 63 ∧ 0 ≤ x1 % 4000 ∧ x1 % 4000 ≤ 3999 := by omega
  obtain ⟨h6, h7, h8, h9⟩ := h5
  have NW := Lib.hid (pnew_ok n r f w (by omega) (by omega) (by omega) hf2 (by omega) (by omega))
  have e0 : pf0 x0 x1 f = pfresh n r f := by unfold pf0; rw [hn, hr]; simp
  rw [e0]
  obtain ⟨P0, hP0⟩ : ∃ P0, pfresh n r f = P0 := ⟨_, rfl⟩
  rw [hP0] at NW ⊢
  have HU := Lib.hid hu
  have hl2 : (len : Int) ≤ 1000 := by omega
  clear hu e0 hf2 hP0
  rcases hcase with ⟨rfl, rfl⟩ | ⟨hx, rfl⟩
  all_goals
    go_enter Try.func24, Try.ntmps24
    go_wp2_with (go_at_call 11; refine NW.out.mono ?_; rintro e w1 ⟨b, rfl, hf⟩; have HF := Lib.hid hf; clear hf)
    clear NW hn hr
    obtain ⟨s, k, hS⟩ := PSt.new HF.out
    have S0 : Hid (PSt w w1 b s k (runP P0 cl num 0)) := hS
    clear HF hS
    go_loopw [11] (fun v wr => ∃ j : Nat, j ≤ len ∧ v = .int .i64 j ∧ Hid (PSt w wr b s k (runP P0 cl num j))) (fun v _ => len - (intOf v).toNat)
    case atStart => exact ⟨0, Nat.zero_le _, rfl, S0.out⟩
    case round =>
      obtain ⟨j, hj, rfl, HS⟩ := hrel
      clear S0
      by_cases hlt : j < len
      · have NX : Hid (runP P0 cl num (j + 1) = (runP P0 cl num j).turn (cl j) (num j)) := rfl
        obtain ⟨P, hP⟩ : ∃ P, runP P0 cl num j = P := ⟨_, rfl⟩
        rw [hP] at NX HS
        clear hP
        obtain ⟨B, off, rfl, hB, hcells⟩ := (HU.out.below HS.out.bel).at_ (show 0 < len by omega)
        have hM := HU.out.bd j (by omega)
        have HC : Hid (∀ W, Below wr.heap.size wr W → W.cell? ⟨B, off + j * 2, none⟩ = some (.bool (cl j)) ∧ W.cell? ⟨B, off + j * 2 + 1, none⟩ = some (.int .u16 (num j))) := fun W hW => ⟨cell_keeps hW (hcells j hlt).1, cell_keeps hW (hcells j hlt).2⟩
        have AL := Lib.hid (all_s P.all HS.out rfl)
        have hlen : P.all.length = P.t.held.length := P.all_len
        have hl64 : P.t.held.length ≤ 64 := HS.out.f.ok.held_len
        generalize cl j = C at *
        generalize num j = M at *
        obtain ⟨m, hm⟩ : ∃ m, P.t.held.length = m := ⟨_, rfl⟩
        rw [hlen, hm] at AL
        rw [hm] at hl64
        clear hcells hlen hB
        cases C with
        | true =>
          have hmod : (M : Int).tmod 300 = ((M % 300 : Nat) : Int) := tmod_nat M 300
          have hq : ((M % 300 : Nat) : Int) ≤ 299 := by omega
          rw [Po.turn_pin] at NX
          generalize M % 300 = y at *
          go_wp2_with (first
            | (go_at_call 22; refine AL.out.mono ?_; rintro e w2 ⟨p, c, rfl, HR, HS2, HB2⟩; obtain ⟨hc0, hc1⟩ := HC.out w2 HB2.out)
            | (go_at_call 13; refine (pin_s (y : Int) _ _ _ _ HS2.out rfl rfl rfl rfl).mono ?_; rintro e w3 ⟨rfl, HS3, _⟩))
          go_roundw
          case rel => exact ⟨j + 1, by omega, by go_num, by rw [NX.out]; exact HS3.out⟩
          case measure => simp [intOf]; omega
        | false =>
          rcases Nat.eq_zero_or_pos m with hm0 | hm0
          · have HN : Hid (runP P0 cl num (j + 1) = P) := by unfold Hid; rw [NX.out]; exact Po.turn_none M (by rw [hm]; exact hm0)
            clear hm NX
            subst hm0
            go_wp2_with (first
              | (go_at_call 22; refine AL.out.mono ?_; rintro e w2 ⟨p, c, rfl, HR, HS2, HB2⟩; obtain ⟨hc0, hc1⟩ := HC.out w2 HB2.out))
            go_roundw
            case rel => exact ⟨j + 1, by omega, by go_num, by rw [HN.out]; exact HS2.out⟩
            case measure => simp [intOf]; omega
          · obtain ⟨i, hi⟩ : ∃ i, P.t.held[M % m]? = some i := ⟨_, List.getElem?_eq_getElem (by rw [hm]; exact Nat.mod_lt _ hm0)⟩
            have hx := Po.all_held hi
            have HN : Hid (runP P0 cl num (j + 1) = P.unpin 2 i (P.t.g i)) := by unfold Hid; rw [NX.out]; exact Po.turn_some M hm hi
            have hmod : (M : Int).tmod (m : Int) = ((M % m : Nat) : Int) := tmod_nat M m
            have hyl : M % m < m := Nat.mod_lt _ hm0
            have HL : Hid (P.all.length = m) := by unfold Hid; rw [P.all_len]; exact hm
            clear NX hi hm
            generalize M % m = y at *
            have hyl2 : (y : Int) < m := by omega
            have hm1 : (0 : Int) < m := by omega
            obtain ⟨u, hu⟩ : ∃ u, P.t.g i = u := ⟨_, rfl⟩
            rw [hu] at hx HN
            have RC : Hid (∀ (W : World) (p : Option Addr) (c : Nat), RdO W (.slice p m c) P.all → ∃ g off, p = some ⟨g, off, none⟩ ∧ g < W.heap.size ∧ Three W g (off + y * 3) ⟨2, i, u⟩) := fun W p c h => by
              obtain ⟨g, off, h1, h2, h3⟩ := h.cell (j := y) (by rw [HL.out]; exact hyl)
              rw [(List.getElem?_eq_some_iff.1 hx).2] at h3
              exact ⟨g, off, h1, h2, h3⟩
            clear hx hu
            go_wp2_with (first
              | (go_at_call 22; refine AL.out.mono ?_; rintro e w2 ⟨p, c, rfl, HR, HS2, HB2⟩; obtain ⟨hc0, hc1⟩ := HC.out w2 HB2.out; obtain ⟨g, off', rfl, hg, t0, t1, t2⟩ := RC.out w2 p c HR.out.rd)
              | (go_at_call 16; refine (unpin_s 2 i u _ HS2.out rfl).mono ?_; rintro e w3 ⟨rfl, HS3, _⟩))
            go_roundw
            case rel => exact ⟨j + 1, by omega, by go_num, by rw [HN.out]; exact HS3.out⟩
            case measure => simp [intOf]; omega
      · obtain rfl : j = len := by omega
        go_wp2
        go_ret
        exact ⟨b, rfl, s, k, HS.out⟩
end Go.Proofs.Ytjhgckaaaonbiaa
