/- The walk of FdsApart: it returns true for every input. -/
import Derived.Test.YthahmcipkchdjaaFw
import Derived.Test.YthahmcipkchdjaaFq
import Derived.Test.YthahmcipkchdjaaFp
import Derived.Test.YthahmcipkchdjaaFy
import Derived.Deep.Cut
import Derived.Deep.CutRange
namespace Go.Proofs.Ythahmcipkchdjaa
open Go.RowKit

/-- Two tables and a list of one's own. -/
structure Ap (w0 w : World) (b k m : Nat) (F : Fb) (b2 k2 m2 : Nat) (G : Fb) (v : Value) (l : List Ro) : Prop where
  s : FSt w0 w b k m F
  t : FSt w0 w b2 k2 m2 G
  r : w.ownsRow w0.heap.size 25 3 v l.length (ocls l)
theorem Ap.quiet {w0 w w' : World} {b k m : Nat} {F : Fb} {b2 k2 m2 : Nat} {G : Fb} {v : Value} {l : List Ro} (h : Ap w0 w b k m F b2 k2 m2 G v l) (q : Below w.heap.size w w') : Ap w0 w' b k m F b2 k2 m2 G v l := ⟨h.s.quiet q, h.t.quiet q, own_below h.r q⟩

theorem Ap.close {w0 w w' : World} {b k m : Nat} {F F' : Fb} {b2 k2 m2 : Nat} {G : Fb} {v : Value} {l : List Ro} (h : Ap w0 w b k m F b2 k2 m2 G v l) (hd : ∀ g, FFoot b2 k2 m2 g → ¬ FFoot b k m g) (q : Kept (FFoot b k m) w w') (hs : FSt w0 w' b k m F') : Ap w0 w' b k m F' b2 k2 m2 G v l :=
  ⟨hs, ⟨h.t.f.kept q hd, hs.bel, h.t.lo⟩, own_keep h.s.f h.r q⟩
theorem own_three {w : World} {base g n c : Nat} {l : List Ro} (r : w.ownsRow base 25 3 (.slice (some ⟨g, 0, none⟩) n c) l.length (ocls l)) {j : Nat} (hj : j < l.length) : Three w g (j * 3) l[j] ∧ g < w.heap.size := by
  obtain ⟨g', off, e, hg, h3⟩ := (RdO.of_own r).cell hj
  injection e with e
  injection e with e1 e2
  subst e1 e2
  rw [Nat.zero_add] at h3
  exact ⟨h3, hg⟩
theorem own_some {w : World} {base n c : Nat} {p : Option Addr} {l : List Ro} (r : w.ownsRow base 25 3 (.slice p n c) l.length (ocls l)) (h : 0 < l.length) : ∃ g, p = some ⟨g, 0, none⟩ ∧ n = l.length := by
  rcases r.2 with ⟨_, h0⟩ | ⟨g, cap, cur, e, _⟩
  · omega
  · injection e with e1 e2 e3
    exact ⟨g, e1, e2⟩

set_option maxHeartbeats 8000000 in
set_option maxRecDepth 1000000 in
theorem fApa_walk (x0 x1 : Int) (a : Option Addr) (len cap : Nat) (c : Nat → Nat) (x3 : Int) (w : World) (h00 : 0 ≤ x0) (h01 : x0 ≤ 255) (h10 : 0 ≤ x1) (h11 : x1 ≤ 4294967295) (hu : U16 w a len cap c) (h30 : 0 ≤ x3) (h31 : x3 ≤ 255) :
    Calls Try.prog 7 #[.int .u8 x0, .int .u32 x1, .slice a len cap, .int .u8 x3] w fun e w' => e = .returned (.bool true) ∧ Below w.heap.size w w' := by
  obtain ⟨s, rfl⟩ : ∃ s : Nat, x0 = s := ⟨x0.toNat, by omega⟩
  obtain ⟨y, rfl⟩ : ∃ y : Nat, x3 = y := ⟨x3.toNat, by omega⟩
  obtain ⟨f1, hf1⟩ : ∃ f1 : Nat, min x1 4294966295 = f1 := ⟨(min x1 4294966295).toNat, by omega⟩
  obtain ⟨f, hf⟩ : ∃ f : Nat, max f1 1 = f := ⟨_, rfl⟩
  have hfb : 1 ≤ f ∧ f ≤ 4294966295 := by omega
  have HF := Lib.hid hfb
  obtain ⟨n, hn⟩ : ∃ n, 1 + s % 64 = n := ⟨_, rfl⟩
  have hnb : 1 ≤ n ∧ n ≤ 64 := by omega
  have HNb := Lib.hid hnb
  have hn1 : (1 : Int) ≤ n := by omega
  have hn2 : (n : Int) ≤ 64 := by omega
  have BG : Hid (∀ W, Calls Try.prog 21 #[.int .u8 s, .int .u32 f1] W (BgP n f W)) := fun W => by
    have := begun_ok s f1 W (by omega) (by omega)
    rw [hn, hf] at this; exact this
  obtain ⟨qa, hqa⟩ : ∃ q : Nat, min (len : Int) 60 = q := ⟨(min (len : Int) 60).toNat, by omega⟩
  obtain ⟨q, hq⟩ : ∃ q : Nat, min (qa : Int) n = q := ⟨(min (qa : Int) n).toNat, by omega⟩
  have hq1 : (q : Int) ≤ 60 := by omega
  have hq2 : (q : Int) ≤ n := by omega
  have hq3 : q ≤ len := by omega
  have hcap := hu.lc
  have hcm := hu.cm
  have hq4 : q ≤ cap := by omega
  have HU := Lib.hid hu
  clear hu hn hf hfb hnb
  go_enter Try.func7, Try.ntmps7
  go_upto_region 4 with (go_at_call 21; refine (BG.out _).mono ?_; rintro e w1 ⟨b, k, m, rfl, S0⟩)
  clear BG
  have R0 : Hid (∃ F, FSt w w1 b k m F ∧ Ops F n f 0 c) := ⟨_, S0.out, Ops.fresh _ _ _⟩
  clear S0
  go_cut [2] from 35 to 40 (fun v wx => v = .slice a q cap ∧ wx = w1)
  case first =>
    go_wp2
    all_goals
      go_meet
      refine ⟨?_, rfl⟩
      congr 1
      omega
  case rest =>
  obtain ⟨rfl, rfl⟩ := hcut
  clear hq hqa
  go_wp2
  go_loopw [43] (fun u wr => ∃ i : Nat, i ≤ q ∧ u = .int .i64 i ∧ Hid (∃ F, FSt w wr b k m F ∧ Ops F n f i c)) (fun u _ => q - (intOf u).toNat)
  case atStart => exact ⟨0, Nat.zero_le _, rfl, R0.out⟩
  case round =>
    clear R0
    obtain ⟨i, hi, rfl, HI⟩ := hrel
    by_cases hlt : i < q
    · obtain ⟨F, hS, hO⟩ := HI.out
      obtain ⟨r, hfree⟩ := hO.free (show i < n by omega)
      obtain ⟨o1, o2, o3, o4, o5⟩ := Fb.opn_at hfree (c i)
      rw [hO.g i (by omega)] at o3
      have hci := HU.out.bd i (by omega)
      have OP : Hid (Calls Try.prog 14 #[.pointer (some ⟨b, 0, none⟩), .int .i64 (c i)] wr fun e w' => e = .returned (.tuple #[.agg #[.int .i64 1, .int .i64 i, .int .u32 f], .int .i64 0]) ∧ Hid (∃ F, FSt w w' b k m F ∧ Ops F n f (i + 1) c)) :=
        (open_s (c i) 1 i f 0 hS hci (by rw [o1]; rfl) (by rw [o2]) (by rw [o3]) o4).mono fun e w' (h : _ ∧ _ ∧ _) => ⟨h.1, _, by have h3 := h.2.1.out; rw [o5] at h3; exact h3, hO.next⟩
      obtain ⟨g, off, rfl, hg, hcell⟩ := (HU.out.below hS.bel).at_ (show 0 < len by omega)
      have hce := hcell i (by omega)
      have hci2 : ((c i : Nat) : Int) ≤ 65535 := by omega
      generalize c i = ci at *
      clear hS hO hfree o1 o2 o3 o4 o5 HI hcell
      go_wp2_with (go_at_call 14; refine OP.out.mono ?_; rintro e w5 ⟨rfl, H5⟩)
      go_roundw
      case rel =>
        refine ⟨i + 1, by omega, by go_num, ?_⟩
        obtain ⟨F, h1, h2⟩ := H5.out
        exact ⟨F, h1.quiet ((Below.refl _ _).alloc (Nat.le_refl _) _), h2⟩
      case measure => simp [intOf]; omega
    · obtain rfl : i = q := by omega
      obtain ⟨F, hS, hO⟩ := HI.out
      have hqn : i ≤ n := by omega
      have CP : Hid (Calls Try.prog 18 #[.pointer (some ⟨b, 0, none⟩)] wr fun e w' => ∃ b2, e = .returned (.pointer (some ⟨b2, 0, none⟩)) ∧ Hid (∃ k2 m2, (FSt w w' b k m F ∧ FSt w w' b2 k2 m2 F) ∧ ∀ g, FFoot b2 k2 m2 g → ¬ FFoot b k m g)) :=
        (fcopy_ok b k m F wr hS.f).mono fun e w' ⟨b2, h1, h2⟩ => by
          obtain ⟨k2, m2, h3, h4, h5⟩ := h2.out
          refine ⟨b2, h1, k2, m2, ⟨hS.quiet h5, ⟨h3, bel2 hS.bel h5, fun g hg => Nat.le_trans hS.bel.size (h4 g hg)⟩⟩, fun g hg hg2 => ?_⟩
          have := h4 g hg
          have := hS.f.foot_lt hg2
          omega
      have hFok := hS.f.ok
      have hall := hO.all hqn
      rcases Nat.eq_zero_or_pos i with hi0 | hi0
      · have AL : Hid (∀ W, FSt w W b k m F → Calls Try.prog 29 #[.pointer (some ⟨b, 0, none⟩)] W fun e w' => ∃ p c', e = .returned (.slice p i c') ∧ Hid (Below w.heap.size w w')) := fun W hW =>
          (all_s (opsL f i) hW hall).mono fun e w' ⟨p, c', h1, _, h3, _⟩ => ⟨p, c', by rw [opsL_len] at h1; exact h1, h3.out.bel⟩
        clear HI hO hall hS
        subst hi0
        go_wp2_with (first
          | (go_at_call 18; refine CP.out.mono ?_; rintro e w6 ⟨b2, rfl, H6⟩)
          | (go_at_call 29; (refine (AL.out _ ?_).mono ?_; (obtain ⟨_, _, ⟨h, _⟩, _⟩ := H6.out; exact h)); rintro e w7 ⟨p, c', rfl, H7⟩)
          | (go_at_call 10; refine (works_ok _).mono ?_; rintro e w8 ⟨rfl, hb⟩; have H8 := Lib.hid (bel2 H7.out hb); clear hb))
        go_ret
        exact ⟨rfl, H8.out⟩
      · have hib : (1 : Int) ≤ i := by omega
        obtain ⟨kk, hkk⟩ : ∃ kk : Nat, (y : Int) % i = kk := ⟨y % i, by omega⟩
        have hk0 : (kk : Int) < i := by rw [← hkk]; exact Int.emod_lt_of_pos _ (by omega)
        have hkn : kk < i := by omega
        obtain ⟨r, hr⟩ : ∃ r, kk + 1 + r = i := ⟨i - kk - 1, by omega⟩
        obtain ⟨i1, hi1⟩ : ∃ i1, kk + r = i1 := ⟨_, rfl⟩
        have HRi := Lib.hid (And.intro hr hi1)
        have AL : Hid (∀ W k2 m2 b2, FSt w W b k m F ∧ FSt w W b2 k2 m2 F → Calls Try.prog 29 #[.pointer (some ⟨b, 0, none⟩)] W fun e w' => ∃ g c', e = .returned (.slice (some ⟨g, 0, none⟩) i c') ∧ Ap w w' b k m F b2 k2 m2 F (.slice (some ⟨g, 0, none⟩) i c') (opsL f i)) := fun W k2 m2 b2 hW =>
          (fall_ok b k m F W hW.1.f).mono fun e w' ⟨p, c', h1, h2, h3⟩ => by
            rw [hall] at h1 h2
            obtain ⟨g, rfl, _⟩ := own_some h2 (by rw [opsL_len]; exact hi0)
            have e1 : (opsL f i).length = i := opsL_len f i
            refine ⟨g, c', by rw [h1, e1], hW.1.quiet h3, hW.2.quiet h3, ?_⟩
            have := own_lower h2 hW.1.bel.size
            rwa [show (Value.slice (some ⟨g, 0, none⟩) (opsL f i).length c') = .slice (some ⟨g, 0, none⟩) i c' by rw [e1]] at this
        have hck := hO.chk hFok hqn hkn
        have hkr : F.t.g kk = f := hO.g kk (by omega)
        have hks := hO.s1 kk hkn
        have hkt : kk < F.t.n := by rw [hO.n_eq]; omega
        have hrg : RgO 1 kk f := ⟨by omega, by omega, by omega, by omega, by have := HF.out; omega, by have := HF.out; omega⟩
        have hca := hO.close_all hqn hkn
        have hlen1 : ((opsL f i).eraseIdx kk).length = i1 := by rw [List.length_eraseIdx_of_lt (by rw [opsL_len]; exact hkn), opsL_len]; omega
        have NUM1 : Hid (∀ j, j < i → RgO 1 j f ∧ ((F.close kk).chk 1 j f = (if j = kk then 7 else 0) ∧ (F.close kk).number 1 j f = (if j = kk then 0 else (c j : Int))) ∧ (F.chk 1 j f = 0 ∧ F.number 1 j f = c j)) := fun j hj => ⟨⟨by omega, by omega, by omega, by omega, by have := HF.out; omega, by have := HF.out; omega⟩, hO.close_chk hFok hqn hkn hj, hO.chk hFok hqn hj⟩
        have hheld : F.t.held.length = i := by rw [hO.held hqn, List.length_range]
        have CLO : Hid (∀ W b2 k2 m2 v l, Ap w W b k m F b2 k2 m2 F v l → (∀ g, FFoot b2 k2 m2 g → ¬ FFoot b k m g) → Calls Try.prog 16 #[.pointer (some ⟨b, 0, none⟩), .agg #[.int .i64 1, .int .i64 kk, .int .u32 f]] W fun e w' => e = .returned (.int .i64 0) ∧ Ap w w' b k m (F.close kk) b2 k2 m2 F v l) := fun W b2 k2 m2 v l hW hd =>
          (close_s 1 kk f 0 hW.s hrg hck.1).mono fun e w' h => ⟨h.1, hW.close hd h.2.2.out (by have h3 := h.2.1.out; rw [Fb.closed_of hck.1] at h3; exact h3)⟩
        have AL2 : Hid (∀ W b2 k2 m2, FSt w W b2 k2 m2 F → Calls Try.prog 29 #[.pointer (some ⟨b2, 0, none⟩)] W fun e w' => ∃ p c', e = .returned (.slice p i c') ∧ (RowO w' (.slice p i c') (opsL f i) ∧ Below W.heap.size W w')) := fun W b2 k2 m2 hW =>
          (all_s (opsL f i) hW hall).mono fun e w' ⟨p, c', h1, h2, _, h4⟩ => ⟨p, c', by rw [opsL_len] at h1; exact h1, by have := h2.out; rw [opsL_len] at this; exact this, h4.out⟩
        have AL1 : Hid (∀ W, FSt w W b k m (F.close kk) → Calls Try.prog 29 #[.pointer (some ⟨b, 0, none⟩)] W fun e w' => ∃ p c', e = .returned (.slice p i1 c') ∧ (RowO w' (.slice p i1 c') ((opsL f i).eraseIdx kk) ∧ Below W.heap.size W w')) := fun W hW =>
          (all_s ((opsL f i).eraseIdx kk) hW hca).mono fun e w' ⟨p, c', h1, h2, _, h4⟩ => ⟨p, c', by rw [hlen1] at h1; exact h1, by have := h2.out; rw [hlen1] at this; exact this, h4.out⟩
        have EQ : Hid (∀ (l : List Ro) (j : Nat) W p c' p2 c2, RdO W (.slice p j c') l → RdO W (.slice p2 j c2) l → Calls Try.prog 28 #[.slice p j c', .slice p2 j c2] W fun e w' => e = .returned (.bool true) ∧ Below W.heap.size W w') := fun l j W p c' p2 c2 h1 h2 => equal_yes _ _ _ _ _ _ l W h1 h2
        have CLN : Hid (∀ W g c', RdO W (.slice (some ⟨g, 0, none⟩) i c') (opsL f i) → Calls Try.prog 31 #[.slice (some ⟨g, 0, none⟩) i c'] W fun e w' => ∃ g2 c2, e = .returned (.slice (some ⟨g2, 0, none⟩) i c2) ∧ (w'.ownsRow W.heap.size 25 3 (.slice (some ⟨g2, 0, none⟩) i c2) (opsL f i).length (ocls (opsL f i)) ∧ Below W.heap.size W w')) := fun W g c' h =>
          (clone_ok _ i c' (opsL f i) W h (by rw [opsL_len]; omega) (by rw [opsL_len]; exact hi0)).mono fun e w' ⟨g2, c2, h1, h2⟩ => ⟨g2, c2, h1, h2.out⟩
        have DEL : Hid (∀ W g2 c2 base, base ≤ W.heap.size → W.ownsRow base 25 3 (.slice (some ⟨g2, 0, none⟩) i c2) (opsL f i).length (ocls (opsL f i)) → Calls Try.prog 22 #[.slice (some ⟨g2, 0, none⟩) i c2, .int .i64 kk, .int .i64 (kk + 1)] W fun e w' => e = .returned (.slice (some ⟨g2, 0, none⟩) i1 c2) ∧ (RdO w' (.slice (some ⟨g2, 0, none⟩) i1 c2) ((opsL f i).eraseIdx kk) ∧ Below base W w')) := fun W g2 c2 base hb h => by
          have hg2 : base ≤ g2 := (h.lt g2 rfl).1
          rw [← HRi.out.1] at h
          have h3 := delete_ok base kk r c2 g2 (opsL f (kk + 1 + r)) (opsL_len _ _) (by rw [opsL_len]; have := HRi.out.1; omega) W (by exact h)
          rw [HRi.out.1, HRi.out.2] at h3
          exact h3.mono fun e w' ⟨h4, h5⟩ => ⟨h4, RdO.of_own h5.out.1, h5.out.2.below hb (fun x hx => by subst hx; exact hg2)⟩
        have ALX : Hid (∀ W b2 k2 m2, FSt w W b2 k2 m2 F → Calls Try.prog 29 #[.pointer (some ⟨b2, 0, none⟩)] W fun e w' => ∃ g5 c5, e = .returned (.slice (some ⟨g5, 0, none⟩) i c5) ∧ FSt w w' b2 k2 m2 F ∧ w'.cell? ⟨g5, 0, none⟩ = some (.int .i64 1)) := fun W b2 k2 m2 hW =>
          (fall_ok b2 k2 m2 F W hW.f).mono fun e w' ⟨p, c', h1, h2, h3⟩ => by
            rw [hall] at h1 h2
            obtain ⟨g, rfl, _⟩ := own_some h2 (by rw [opsL_len]; exact hi0)
            have e1 : (opsL f i).length = i := opsL_len f i
            obtain ⟨⟨d0, _, _⟩, _⟩ := own_three h2 (show 0 < (opsL f i).length by rw [e1]; exact hi0)
            rw [opsL_at] at d0
            exact ⟨g, c', by rw [h1, e1], hW.quiet h3, d0⟩
        have LEN2 : Hid (∀ W b2 k2 m2, FSt w W b2 k2 m2 F → Calls Try.prog 30 #[.pointer (some ⟨b2, 0, none⟩)] W fun e w' => e = .returned (.int .i64 i) ∧ W = w') := fun W b2 k2 m2 hW => by
          have := flen_ok b2 k2 m2 F W hW.f
          rw [hheld] at this; exact this
        clear HI hO hall hS hck hkr hks hkt hca hlen1 hheld hrg hFok hr hi1
        go_wp2_with (first
          | (go_at_call 18; refine CP.out.mono ?_; rintro e w6 ⟨b2, rfl, H6⟩; obtain ⟨k2, m2, h6, hd⟩ := H6.out; have G6 := Lib.hid h6; have HD := Lib.hid hd; clear H6 h6 hd)
          | (go_at_call 16; refine (CLO.out _ _ _ _ _ _ G7.out HD.out).mono ?_; rintro e w8 ⟨rfl, h8⟩; have G8 := Lib.hid h8; clear h8 d0 d1 d2)
          | (go_at_call 28; refine (EQ.out _ _ _ _ _ _ _ R12.out.1 R12.out.2).mono ?_; rintro e w13 ⟨rfl, hb⟩; have H13 := Lib.hid (H12.out.trans (hb.mono H12.out.size)); clear hb)
          | (go_at_call 22; refine (DEL.out _ _ _ _ RC.out.2 RC.out.1).mono ?_; rintro e w12 ⟨rfl, hd, hb⟩; have R12 := Lib.hid (And.intro (RL.out w12 hb) hd); have H12 := Lib.hid (HX.out w12 hb); clear hd hb)
          | (go_at_call 31; refine (CLN.out _ _ _ (RdO.of_own ((G8.out.quiet H11.out).r |> fun z => by rw [opsL_len] at z; exact (by rw [opsL_len]; exact z)))).mono ?_; rintro e v11 ⟨g2, c2, rfl, ho, hb⟩; have RC := Lib.hid (And.intro ho hb.size); have RL := Lib.hid (fun W (hW : Below w11.heap.size v11 W) => (R11.out.rd.same (Nat.le_trans hb.size hW.size) fun z _ hz => (hW.block z hz).trans (hb.block z hz))); have HX := Lib.hid (fun W (hW : Below w11.heap.size v11 W) => (⟨hW.os.trans (hb.os.trans H11.out.os), hW.tape.trans (hb.tape.trans H11.out.tape), hW.output.trans (hb.output.trans H11.out.output), Nat.le_trans H11.out.size (Nat.le_trans hb.size hW.size), fun z hz => (hW.block z (Nat.lt_of_lt_of_le hz H11.out.size)).trans ((hb.block z (Nat.lt_of_lt_of_le hz H11.out.size)).trans (H11.out.block z hz))⟩ : Below w8.heap.size w8 W)); clear ho hb)
          | (go_at_call 29; refine (AL1.out _ (G8.out.quiet H10.out).s).mono ?_; rintro e w11 ⟨p3, c3, rfl, hr3, hb⟩; have R11 := Lib.hid hr3; have H11 := Lib.hid (H10.out.trans (hb.mono H10.out.size)); clear hr3 hb)
          | (go_at_call 28; refine (EQ.out _ _ _ _ _ _ _ R9.out.rd (RdO.of_own (G8.out.quiet H9.out).r)).mono ?_; rintro e w10 ⟨rfl, hb⟩; have H10 := Lib.hid (H9.out.trans (hb.mono H9.out.size)); clear hb)
          | (go_at_call 29; refine (AL2.out _ _ _ _ G8.out.t).mono ?_; rintro e w9 ⟨p2, c2', rfl, hr2, hb⟩; have R9 := Lib.hid hr2; have H9 := Lib.hid hb; clear hr2 hb)
          | (go_at_call 29; refine (AL.out _ _ _ _ G6.out).mono ?_; rintro e w7 ⟨g, c', rfl, h7⟩; have G7 := Lib.hid h7; obtain ⟨⟨d0, d1, d2⟩, hgl⟩ := own_three h7.r (show kk < (opsL f i).length by rw [opsL_len]; exact hkn); rw [opsL_at] at d0 d1 d2; clear h7))
        have G13 := Lib.hid (G8.out.quiet H13.out)
        clear CLO AL2 AL1 EQ CLN DEL AL CP G6 HD G7 G8 H9 H10 H11 H12 H13 R9 R11 R12 RC RL HX
        have hgo : ∀ j, j < i → j < (opsL f i).length := fun j hj => by rw [opsL_len]; exact hj
        have HGO := Lib.hid hgo
        clear hgo
        obtain ⟨ga, oa, rfl, hga, _⟩ := HU.out.at_ (show 0 < len by omega)
        have HUC : Hid (∀ W j, Below w.heap.size w W → j < i → W.cell? ⟨ga, oa + j, none⟩ = some (.int .u16 (c j)) ∧ c j ≤ 65535) := fun W j hW hj => by
          obtain ⟨g', o', e, _, hcell⟩ := (HU.out.below hW).at_ (show 0 < len by omega)
          injection e with e
          injection e with e1 e2
          subst e1 e2
          exact ⟨hcell j (by omega), HU.out.bd j (by omega)⟩
        go_loopw [114] (fun u wr => ∃ j : Nat, j ≤ i ∧ u = .int .i64 j ∧ Hid (Ap w wr b k m (F.close kk) b2 k2 m2 F (.slice (some ⟨g, 0, none⟩) i c') (opsL f i))) (fun u _ => i - (intOf u).toNat)
        case atStart => exact ⟨0, Nat.zero_le _, rfl, G13.out⟩
        case round =>
          clear G13
          obtain ⟨j, hj, rfl, HA⟩ := hrel
          by_cases hlj : j < i
          · obtain ⟨⟨d0, d1, d2⟩, hgl⟩ := own_three HA.out.r (HGO.out j hlj)
            rw [opsL_at] at d0 d1 d2
            simp only at d0 d1 d2
            obtain ⟨hrg, ⟨n1, n2⟩, n3, n4⟩ := NUM1.out j hlj
            have N2 := Lib.hid (fun W (hW : FSt w W b2 k2 m2 F) => number_s 1 j f (c j) 0 hW hrg n4 n3)
            have HCJ := Lib.hid (fun W (hW : Below w.heap.size w W) => HUC.out W j hW hlj)
            obtain ⟨cj, hcj⟩ : ∃ cj, c j = cj := ⟨_, rfl⟩
            have hcb : (cj : Int) ≤ 65535 := by have := (HCJ.out w (Below.refl _ _)).2; omega
            rw [hcj] at N2 HCJ n2
            by_cases hjk : j = kk
            · rw [if_pos hjk] at n1 n2
              have N1 := Lib.hid (fun W (hW : FSt w W b k m (F.close kk)) => number_s 1 j f 0 7 hW hrg n2 n1)
              subst hjk
              clear n1 n2 n3 n4 hrg hcj
              go_wp2_with (first
                | (go_at_call 27; refine (N2.out _ G1.out.t).mono ?_; rintro e v2 ⟨rfl, _, hb⟩; have G2 := Lib.hid (G1.out.quiet hb.out); have hcell := (HCJ.out v2 G2.out.s.bel).1; clear hb)
                | (go_at_call 27; refine (N1.out _ (HA.out.s.quiet ((Below.refl _ _).alloc (Nat.le_refl _) _))).mono ?_; rintro e v1 ⟨rfl, _, hb⟩; have G1 := Lib.hid ((HA.out.quiet ((Below.refl _ wr).alloc (Nat.le_refl _) _)).quiet hb.out); obtain ⟨b0, b1, b3, b4⟩ := box_o hb.out; clear hb))
              go_roundw
              case rel => exact ⟨j + 1, by omega, by go_num, G2.out⟩
              case measure => simp [intOf]; omega
            · rw [if_neg hjk] at n1 n2
              have N1 := Lib.hid (fun W (hW : FSt w W b k m (F.close kk)) => number_s 1 j f cj 0 hW hrg n2 n1)
              have hjI : ((j : Int) == kk) = false := by simp; omega
              clear n1 n2 n3 n4 hrg hcj
              go_wp2_with (first
                | (go_at_call 27; refine (N2.out _ G1.out.t).mono ?_; rintro e v2 ⟨rfl, _, hb⟩; have G2 := Lib.hid (G1.out.quiet hb.out); have hcell := (HCJ.out v2 G2.out.s.bel).1; clear hb)
                | (go_at_call 27; refine (N1.out _ (HA.out.s.quiet ((Below.refl _ _).alloc (Nat.le_refl _) _))).mono ?_; rintro e v1 ⟨rfl, _, hb⟩; have G1 := Lib.hid ((HA.out.quiet ((Below.refl _ wr).alloc (Nat.le_refl _) _)).quiet hb.out); obtain ⟨b0, b1, b3, b4⟩ := box_o hb.out; clear hb))
              · exfalso
                rename_i hx
                simp only [bne, Bool.not_not, beq_iff_eq] at hx
                exact hjk (by omega)
              · exact ⟨⟨j + 1, by omega, by go_num, G2.out⟩, by simp [intOf]; omega⟩
          · have hji : (i : Int) ≤ j := by omega
            have hcl : ∀ ty, ∃ W2, (Builtin.clear_ #[36] ty #[.slice (some ⟨g, 0, none⟩) i c']).run Try.prog wr = .ok (.tuple #[]) W2 ∧ FSt w W2 b2 k2 m2 F := fun ty => by
              have hr := HA.out.r
              rcases hr.2 with ⟨e, _⟩ | ⟨g', cap', cur, e, hbg, hk, h3, h4, h5, h6⟩
              · cases e
              · injection e with e1 e2 e3
                injection e1 with e1
                injection e1 with e1
                subst e1 e3
                have hk : Bk wr g 25 cur := hk
                have hl : (opsL f i).length = i := opsL_len f i
                have hrun := run_clear_at hk 0 i c' hi0 (by omega) ty
                obtain ⟨h7, h8⟩ := hk.setRow (cur.toList.take (0 * 3) ++ (Builtin.zeroCells zo i).toList ++ cur.toList.drop (0 * 3 + i * 3)).toArray
                refine ⟨_, hrun, HA.out.t.f.kept h8 (fun x hx e => by subst e; exact HA.out.t.f.box hk (by decide) (by decide) hx), HA.out.t.bel.trans (h8.below HA.out.t.bel.size (fun x e => by subst e; exact hbg)), HA.out.t.lo⟩
            obtain ⟨W2, hclr, hS2⟩ := hcl 0
            have HS2 := Lib.hid hS2
            have AL3 := Lib.hid (fun W (hW : FSt w W b2 k2 m2 F) => ALX.out W b2 k2 m2 hW)
            clear hcl hS2 hlj hj HUC HGO NUM1
            go_wp2_with (first
              | (go_at_call 30; refine (LEN2.out _ _ _ _ HS2.out).mono ?_; rintro e w' ⟨rfl, rfl⟩)
              | (go_at_call 10; refine (works_ok _).mono ?_; rintro e w16 ⟨rfl, hb⟩; have H16 := Lib.hid (bel2 S15.out.bel hb); clear hb)
              | (go_at_call 29; refine (AL3.out _ S14.out).mono ?_; rintro e w15 ⟨g5, c5, rfl, hs5, hc5⟩; have S15 := Lib.hid hs5; have hc6 := hc5; clear hs5 hc5)
              | (go_at_call 29; refine (AL3.out _ HS2.out).mono ?_; rintro e w14 ⟨g4, c4, rfl, hs4, hc4⟩; have S14 := Lib.hid hs4; clear hs4 hc4))
            go_ret
            exact ⟨rfl, H16.out⟩
end Go.Proofs.Ythahmcipkchdjaa
