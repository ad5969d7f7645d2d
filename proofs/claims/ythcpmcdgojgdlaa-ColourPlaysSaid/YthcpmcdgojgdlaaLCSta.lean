/- The walk of the statement ColourStays: it returns true for all sizes, numbers and slots. -/
import Derived.Test.YthcpmcdgojgdlaaCq
import Derived.Deep.QuietTactic
namespace Go.Proofs.Ythcpmcdgojgdlaa
open Go.RowKit

/-- A paint with its colours in a slice of its own. -/
structure Col (w0 w : World) (b g n : Nat) (P : Pt) : Prop where
  c : CSt w0 w b P
  l : Bl w g n P.c
theorem Col.quiet {w0 w w' : World} {b g n : Nat} {P : Pt} (h : Col w0 w b g n P) (q : Below w.heap.size w w') : Col w0 w' b g n P := ⟨h.c.quiet q, h.l.below q⟩
/-- A slot that there is not. -/
def Off (n : Nat) (i : Int) : Prop := i < 0 ∨ (n : Int) ≤ i
theorem off_at {P : Pt} {n : Nat} {i : Int} (h : Off n i) (hn : P.n = n) : ¬ P.at_ i := by unfold Off at h; unfold Pt.at_; omega
section
variable {w0 w : World} {b g n : Nat} {P : Pt} {i : Int}
theorem Col.of_off (h : Col w0 w b g n P) (hi : Off n i) (hn : P.n = n) : Calls Try.prog 25 #[.pointer (some ⟨b, 0, none⟩), .int .i64 i] w fun e w' => e = .returned (.tuple #[.int .i64 0, .int .i64 3]) ∧ w = w' :=
  of_out b P i w h.c.p (by unfold Off at hi; omega)
theorem Col.keep (h : Col w0 w b g n P) {w' : World} (c : CSt w0 w' b P) (k : Kept (· = b) w w') : Col w0 w' b g n P := ⟨c, h.l.kept k (h.l.ne h.c.p)⟩
theorem Col.shade_off (h : Col w0 w b g n P) (hi : Off n i) (hn : P.n = n) : Calls Try.prog 12 #[.pointer (some ⟨b, 0, none⟩), .int .i64 i] w fun e w' => e = .returned (.tuple #[.bool false, .int .i64 3]) ∧ Col w0 w' b g n P := by
  have ha := off_at hi hn
  refine (shade_s i false 3 h.c (by unfold Pt.shadeB; simp [ha]) (by unfold Pt.chk; rw [if_neg ha])).mono ?_
  rintro e w' ⟨k1, k2, k3⟩
  rw [show P.turn i 0 1 = P from by unfold Pt.turn; rw [if_neg (fun x => ha x.1)]] at k2
  exact ⟨k1, h.keep k2 k3⟩
theorem Col.black_off (h : Col w0 w b g n P) (hi : Off n i) (hn : P.n = n) : Calls Try.prog 14 #[.pointer (some ⟨b, 0, none⟩), .int .i64 i] w fun e w' => e = .returned (.int .i64 3) ∧ Col w0 w' b g n P := by
  have ha := off_at hi hn
  refine (black_s i 3 h.c (by unfold Pt.turnE; rw [if_neg ha])).mono ?_
  rintro e w' ⟨k1, k2, k3⟩
  rw [show P.turn i 1 2 = P from by unfold Pt.turn; rw [if_neg (fun x => ha x.1)]] at k2
  exact ⟨k1, h.keep k2 k3⟩
theorem Col.born_off (h : Col w0 w b g n P) (hi : Off n i) (hn : P.n = n) : Calls Try.prog 16 #[.pointer (some ⟨b, 0, none⟩), .int .i64 i] w fun e w' => e = .returned (.int .i64 3) ∧ Col w0 w' b g n P := by
  have ha := off_at hi hn
  refine (born_s i 3 h.c (by unfold Pt.turnE; rw [if_neg ha])).mono ?_
  rintro e w' ⟨k1, k2, k3⟩
  rw [show P.turn i 0 2 = P from by unfold Pt.turn; rw [if_neg (fun x => ha x.1)]] at k2
  exact ⟨k1, h.keep k2 k3⟩
theorem Col.bleach_off (h : Col w0 w b g n P) (hi : Off n i) (hn : P.n = n) : Calls Try.prog 18 #[.pointer (some ⟨b, 0, none⟩), .int .i64 i] w fun e w' => e = .returned (.int .i64 3) ∧ Col w0 w' b g n P := by
  have ha := off_at hi hn
  refine (bleach_s i 3 h.c (by unfold Pt.chk; rw [if_neg ha])).mono ?_
  rintro e w' ⟨k1, k2, k3⟩
  rw [show P.bleach i = P from by unfold Pt.bleach; rw [if_neg ha]] at k2
  exact ⟨k1, h.keep k2 k3⟩
end
theorem white_cnt (n : Nat) : (white n).cnt 0 = n ∧ (white n).cnt 1 = 0 ∧ (white n).cnt 2 = 0 := by
  have h1 : (white n).cnt 1 = 0 := by
    unfold Pt.cnt sel white
    rw [List.length_eq_zero_iff, List.filter_eq_nil_iff]
    intro i _; simp
  have h2 : (white n).cnt 2 = 0 := by
    unfold Pt.cnt sel white
    rw [List.length_eq_zero_iff, List.filter_eq_nil_iff]
    intro i _; simp
  refine ⟨?_, h1, h2⟩
  have := sel_all (f := (white n).c) (fun i => by simp [white]) n
  have e1 : (sel (white n).c 1 n).length = 0 := h1
  have e2 : (sel (white n).c 2 n).length = 0 := h2
  show (sel (white n).c 0 n).length = n
  omega
theorem nil_no (g n c : Nat) (W : World) : (binOp .eql 52 (.slice (some ⟨g, 0, none⟩) n c) (.slice none 0 0)).run Try.prog W = .ok (.bool false) W :=
  Lib.run_eql_slice_nil W 52 3 _ _ _ _ _ Try.underlying52
/-- A paint with its colours in a slice, and a copy. -/
structure Two (w0 w : World) (b g n : Nat) (P : Pt) (c : Nat) (Q : Pt) : Prop where
  a : Col w0 w b g n P
  q : CSt w0 w c Q
  bc : b ≠ c
  gc : g ≠ c
theorem Two.quiet {w0 w w' : World} {b g n c : Nat} {P Q : Pt} (h : Two w0 w b g n P c Q) (k : Below w.heap.size w w') : Two w0 w' b g n P c Q := ⟨h.a.quiet k, h.q.quiet k, h.bc, h.gc⟩
theorem Two.step {w0 w w' : World} {b g n c : Nat} {P Q R : Pt} (h : Two w0 w b g n P c Q) (hr : CSt w0 w' c R) (k : Kept (· = c) w w') : Two w0 w' b g n P c R :=
  ⟨⟨h.a.c.other k h.q.lb h.bc, h.a.l.kept k h.gc⟩, hr, h.bc, h.gc⟩
/-- The three sizes that are none. -/
structure Bad (w0 w : World) (A : Nat) (x y z : Int) : Prop where
  bk : Bk w A 3 #[.int .i64 x, .int .i64 y, .int .i64 z]
  bel : Below w0.heap.size w0 w
set_option maxRecDepth 100000 in
set_option maxHeartbeats 16000000 in
theorem stays_neg (sz : Nat) (a : Option Addr) (len cap : Nat) (s : Nat → Nat) (slot : Int) (w : World) (hsz : sz ≤ 255) (hle : len ≤ cap) (hcap : cap ≤ 9223372036854775807) (hu : Nums .u8 255 w a len s) (hs : slot < 0) (hs0 : -9223372036854775808 ≤ slot) :
    Calls Try.prog 8 #[.int .u8 sz, .slice a len cap, .int .i64 slot] w fun e w' => e = .returned (.bool true) ∧ Below w.heap.size w w' := by
  obtain ⟨n, hn⟩ : ∃ n, n = sz + 1 := ⟨_, rfl⟩
  have EN : Hid ((1 : Int) + (sz : Int) = (n : Int)) := by unfold Hid; omega
  have hn256 : 1 ≤ n ∧ n ≤ 256 := by omega
  have HPT := Lib.hid (painted_ok n a len cap s w (by omega) (by omega) hle hcap hu)
  have HNS := Lib.hid hn
  clear hu hn
  go_enter Try.func8, Try.ntmps8
  go_wp2_with fail
  rw [EN.out]
  refine HPT.out.mono ?_
  rintro e w1 ⟨b, P, hP, rfl, s1⟩
  have HP := Lib.hid hP
  have S1 := Lib.hid s1
  have OF : Hid (Off n (slot)) := by unfold Hid Off; have := HNS.out; omega
  clear HPT hP s1
  go_wp2_with fail
  refine (colours_ok b n P _ S1.out.p HP.out).mono ?_
  rintro e w2 ⟨g, _, rfl, hl, hb⟩
  have C2 : Hid (Col w w2 b g n P) := ⟨S1.out.quiet hb, hl⟩
  clear hl hb S1
  obtain ⟨i, hi⟩ : ∃ i, slot = i := ⟨_, rfl⟩
  rw [hi] at OF ⊢
  clear hi
  have hnil := nil_no g n n
  clear hs hs0
  go_wp2_with (first
    | (go_at_call 25; refine (C2.out.of_off OF.out HP.out).mono ?_; rintro e w' ⟨rfl, rfl⟩)
    | (go_at_call 12; refine (C2.out.shade_off OF.out HP.out).mono ?_; rintro e w3 ⟨rfl, h⟩; have C3 := Lib.hid h; clear h)
    | (go_at_call 14; refine (C3.out.black_off OF.out HP.out).mono ?_; rintro e w4 ⟨rfl, h⟩; have C4 := Lib.hid h; clear h)
    | (go_at_call 16; refine (C4.out.born_off OF.out HP.out).mono ?_; rintro e w5 ⟨rfl, h⟩; have C5 := Lib.hid h; clear h)
    | (go_at_call 18; refine (C5.out.bleach_off OF.out HP.out).mono ?_; rintro e w6 ⟨rfl, h⟩; have C6 := Lib.hid h; clear h)
    | fail)
  refine (copy_ok b P _ C6.out.c.p).mono ?_
  rintro e w7 ⟨rfl, hp, hb⟩
  have T7 : Hid (Two w w7 b g n P w6.heap.size P) := ⟨C6.out.quiet hb, ⟨hp, bel2 C6.out.c.bel hb, C6.out.c.bel.size⟩, Nat.ne_of_lt C6.out.c.p.bt, Nat.ne_of_lt C6.out.l.lt⟩
  clear hp hb C2 C3 C4 C5
  obtain ⟨c, hc⟩ : ∃ c, w6.heap.size = c := ⟨_, rfl⟩
  rw [hc] at T7 ⊢
  clear hc C6
  go_wp2_with fail
  refine (clear_s T7.out.q).mono ?_
  rintro e w8 ⟨rfl, h8, k8⟩
  rw [HP.out] at h8
  have T8 := Lib.hid (T7.out.step h8 k8)
  clear h8 k8 T7
  obtain ⟨z0, z1, z2⟩ := white_cnt n
  have HZ := Lib.hid (And.intro z0 (And.intro z1 z2))
  clear z0 z1 z2
  go_wp2_with fail
  refine (counts_s n 0 0 T8.out.q HZ.out.1 HZ.out.2.1 HZ.out.2.2).mono ?_
  rintro e w9 ⟨rfl, _, hb⟩
  have T9 := Lib.hid (T8.out.quiet hb)
  clear hb T8
  go_wp2_with fail
  refine (colours_ok b n P _ T9.out.a.c.p HP.out).mono ?_
  rintro e wa ⟨h, _, rfl, hl, hb⟩
  have CA := Lib.hid (T9.out.a.quiet hb)
  have LA := Lib.hid hl
  have hnil2 := nil_no h n n
  clear hb T9 hl
  go_wp2
  go_loopw [119] (fun v wr => ∃ k : Nat, k ≤ n ∧ v = .int .i64 k ∧ Hid (Col w wr b g n P) ∧ Hid (Bl wr h n P.c)) (fun v _ => n - (intOf v).toNat)
  case atStart => exact ⟨0, Nat.zero_le _, rfl, CA.out, LA.out⟩
  case round =>
    obtain ⟨k, hk, rfl, HC, HL⟩ := hrel
    by_cases hlt : k < n
    · have hv := HC.out.l.val hlt
      have hv2 := HL.out.val hlt
      have hgl := HC.out.l.lt
      have hhl := HL.out.lt
      generalize P.c k = x at *
      have hxx : ((x : Int) != (x : Int)) = false := by simp
      go_wp2
      go_quiet (fail)
      go_wp2
      go_roundw
      case rel => exact ⟨k + 1, by omega, by go_num, HC.out.quiet (bel_drewN (Below.refl _ _) _), HL.out.drewN _⟩
      case measure => simp [intOf]; omega
    · obtain rfl : k = n := by omega
      clear hlt hnil hnil2
      go_wp2
      have SB : Hid (Bad w (wr.alloc (.cells #[.int .i64 0, .int .i64 (-(sz : Int)), .int .i64 (256 + (k : Int))] 3)) wr.heap.size 0 (-(sz : Int)) (256 + (k : Int))) := ⟨Bk.new _ _ _, bel2 HC.out.c.bel (bel_new _ _)⟩
      generalize wr.heap.size = A at *
      generalize wr.alloc (.cells #[.int .i64 0, .int .i64 (-(sz : Int)), .int .i64 (256 + (k : Int))] 3) = wr2 at *
      go_loopw [139] (fun v wq => ∃ j : Nat, j ≤ 3 ∧ v = .int .i64 j ∧ Hid (Bad w wq A 0 (-(sz : Int)) (256 + (k : Int)))) (fun v _ => 3 - (intOf v).toNat)
      case atStart => exact ⟨0, by omega, rfl, SB.out⟩
      case round =>
        clear SB
        obtain ⟨j, hj, rfl, HD⟩ := hrel
        by_cases hlt : j < 3
        · have hv : ∃ v : Int, (v < 1 ∨ 256 < v) ∧ wr.cell? ⟨A, j, none⟩ = some (.int .i64 v) := by
            match j, hlt with
            | 0, _ => exact ⟨0, by omega, HD.out.bk.cell 0⟩
            | 1, _ => exact ⟨_, by omega, HD.out.bk.cell 1⟩
            | 2, _ => exact ⟨_, by omega, HD.out.bk.cell 2⟩
          obtain ⟨v, hvv, hc⟩ := hv
          have HV := Lib.hid hvv
          have hlA := HD.out.bk.lt
          clear hvv
          go_wp2_with (go_at_call 10; refine (new_bad _ _ HV.out).mono ?_; rintro e w' ⟨rfl, rfl⟩)
          go_roundw
          case rel => exact ⟨j + 1, by omega, by go_num, HD.out⟩
          case measure => simp [intOf]; omega
        · obtain rfl : j = 3 := by omega
          go_wp2_with fail
          refine (works_ok _).mono ?_
          rintro e wz ⟨rfl, hb⟩
          have HB := Lib.hid (bel2 HD.out.bel hb)
          clear hb
          go_wp2
          go_ret
          exact ⟨rfl, HB.out⟩
set_option maxRecDepth 100000 in
set_option maxHeartbeats 16000000 in
theorem stays_in (sz : Nat) (a : Option Addr) (len cap : Nat) (s : Nat → Nat) (slot : Int) (w : World) (hsz : sz ≤ 255) (hle : len ≤ cap) (hcap : cap ≤ 9223372036854775807) (hu : Nums .u8 255 w a len s) (hs : 0 ≤ slot) (hs0 : slot ≤ (sz : Int)) :
    Calls Try.prog 8 #[.int .u8 sz, .slice a len cap, .int .i64 slot] w fun e w' => e = .returned (.bool true) ∧ Below w.heap.size w w' := by
  obtain ⟨n, hn⟩ : ∃ n, n = sz + 1 := ⟨_, rfl⟩
  have EN : Hid ((1 : Int) + (sz : Int) = (n : Int)) := by unfold Hid; omega
  have hn256 : 1 ≤ n ∧ n ≤ 256 := by omega
  have HPT := Lib.hid (painted_ok n a len cap s w (by omega) (by omega) hle hcap hu)
  have HNS := Lib.hid hn
  clear hu hn
  go_enter Try.func8, Try.ntmps8
  go_wp2_with fail
  rw [EN.out]
  refine HPT.out.mono ?_
  rintro e w1 ⟨b, P, hP, rfl, s1⟩
  have HP := Lib.hid hP
  have S1 := Lib.hid s1
  have hs2 : slot < (n : Int) := by have := HNS.out; omega
  have OF : Hid (Off n (slot + (n : Int))) := by unfold Hid Off; have := HNS.out; omega
  clear HPT hP s1
  go_wp2_with fail
  refine (colours_ok b n P _ S1.out.p HP.out).mono ?_
  rintro e w2 ⟨g, _, rfl, hl, hb⟩
  have C2 : Hid (Col w w2 b g n P) := ⟨S1.out.quiet hb, hl⟩
  clear hl hb S1
  obtain ⟨i, hi⟩ : ∃ i, slot + (n : Int) = i := ⟨_, rfl⟩
  rw [hi] at OF ⊢
  clear hi
  have hnil := nil_no g n n
  clear hs hs0 hs2
  go_wp2_with (first
    | (go_at_call 25; refine (C2.out.of_off OF.out HP.out).mono ?_; rintro e w' ⟨rfl, rfl⟩)
    | (go_at_call 12; refine (C2.out.shade_off OF.out HP.out).mono ?_; rintro e w3 ⟨rfl, h⟩; have C3 := Lib.hid h; clear h)
    | (go_at_call 14; refine (C3.out.black_off OF.out HP.out).mono ?_; rintro e w4 ⟨rfl, h⟩; have C4 := Lib.hid h; clear h)
    | (go_at_call 16; refine (C4.out.born_off OF.out HP.out).mono ?_; rintro e w5 ⟨rfl, h⟩; have C5 := Lib.hid h; clear h)
    | (go_at_call 18; refine (C5.out.bleach_off OF.out HP.out).mono ?_; rintro e w6 ⟨rfl, h⟩; have C6 := Lib.hid h; clear h)
    | fail)
  refine (copy_ok b P _ C6.out.c.p).mono ?_
  rintro e w7 ⟨rfl, hp, hb⟩
  have T7 : Hid (Two w w7 b g n P w6.heap.size P) := ⟨C6.out.quiet hb, ⟨hp, bel2 C6.out.c.bel hb, C6.out.c.bel.size⟩, Nat.ne_of_lt C6.out.c.p.bt, Nat.ne_of_lt C6.out.l.lt⟩
  clear hp hb C2 C3 C4 C5
  obtain ⟨c, hc⟩ : ∃ c, w6.heap.size = c := ⟨_, rfl⟩
  rw [hc] at T7 ⊢
  clear hc C6
  go_wp2_with fail
  refine (clear_s T7.out.q).mono ?_
  rintro e w8 ⟨rfl, h8, k8⟩
  rw [HP.out] at h8
  have T8 := Lib.hid (T7.out.step h8 k8)
  clear h8 k8 T7
  obtain ⟨z0, z1, z2⟩ := white_cnt n
  have HZ := Lib.hid (And.intro z0 (And.intro z1 z2))
  clear z0 z1 z2
  go_wp2_with fail
  refine (counts_s n 0 0 T8.out.q HZ.out.1 HZ.out.2.1 HZ.out.2.2).mono ?_
  rintro e w9 ⟨rfl, _, hb⟩
  have T9 := Lib.hid (T8.out.quiet hb)
  clear hb T8
  go_wp2_with fail
  refine (colours_ok b n P _ T9.out.a.c.p HP.out).mono ?_
  rintro e wa ⟨h, _, rfl, hl, hb⟩
  have CA := Lib.hid (T9.out.a.quiet hb)
  have LA := Lib.hid hl
  have hnil2 := nil_no h n n
  clear hb T9 hl
  go_wp2
  go_loopw [119] (fun v wr => ∃ k : Nat, k ≤ n ∧ v = .int .i64 k ∧ Hid (Col w wr b g n P) ∧ Hid (Bl wr h n P.c)) (fun v _ => n - (intOf v).toNat)
  case atStart => exact ⟨0, Nat.zero_le _, rfl, CA.out, LA.out⟩
  case round =>
    obtain ⟨k, hk, rfl, HC, HL⟩ := hrel
    by_cases hlt : k < n
    · have hv := HC.out.l.val hlt
      have hv2 := HL.out.val hlt
      have hgl := HC.out.l.lt
      have hhl := HL.out.lt
      generalize P.c k = x at *
      have hxx : ((x : Int) != (x : Int)) = false := by simp
      go_wp2
      go_quiet (fail)
      go_wp2
      go_roundw
      case rel => exact ⟨k + 1, by omega, by go_num, HC.out.quiet (bel_drewN (Below.refl _ _) _), HL.out.drewN _⟩
      case measure => simp [intOf]; omega
    · obtain rfl : k = n := by omega
      clear hlt hnil hnil2
      go_wp2
      have SB : Hid (Bad w (wr.alloc (.cells #[.int .i64 0, .int .i64 (-(sz : Int)), .int .i64 (256 + (k : Int))] 3)) wr.heap.size 0 (-(sz : Int)) (256 + (k : Int))) := ⟨Bk.new _ _ _, bel2 HC.out.c.bel (bel_new _ _)⟩
      generalize wr.heap.size = A at *
      generalize wr.alloc (.cells #[.int .i64 0, .int .i64 (-(sz : Int)), .int .i64 (256 + (k : Int))] 3) = wr2 at *
      go_loopw [139] (fun v wq => ∃ j : Nat, j ≤ 3 ∧ v = .int .i64 j ∧ Hid (Bad w wq A 0 (-(sz : Int)) (256 + (k : Int)))) (fun v _ => 3 - (intOf v).toNat)
      case atStart => exact ⟨0, by omega, rfl, SB.out⟩
      case round =>
        clear SB
        obtain ⟨j, hj, rfl, HD⟩ := hrel
        by_cases hlt : j < 3
        · have hv : ∃ v : Int, (v < 1 ∨ 256 < v) ∧ wr.cell? ⟨A, j, none⟩ = some (.int .i64 v) := by
            match j, hlt with
            | 0, _ => exact ⟨0, by omega, HD.out.bk.cell 0⟩
            | 1, _ => exact ⟨_, by omega, HD.out.bk.cell 1⟩
            | 2, _ => exact ⟨_, by omega, HD.out.bk.cell 2⟩
          obtain ⟨v, hvv, hc⟩ := hv
          have HV := Lib.hid hvv
          have hlA := HD.out.bk.lt
          clear hvv
          go_wp2_with (go_at_call 10; refine (new_bad _ _ HV.out).mono ?_; rintro e w' ⟨rfl, rfl⟩)
          go_roundw
          case rel => exact ⟨j + 1, by omega, by go_num, HD.out⟩
          case measure => simp [intOf]; omega
        · obtain rfl : j = 3 := by omega
          go_wp2_with fail
          refine (works_ok _).mono ?_
          rintro e wz ⟨rfl, hb⟩
          have HB := Lib.hid (bel2 HD.out.bel hb)
          clear hb
          go_wp2
          go_ret
          exact ⟨rfl, HB.out⟩
set_option maxRecDepth 100000 in
set_option maxHeartbeats 16000000 in
theorem stays_big (sz : Nat) (a : Option Addr) (len cap : Nat) (s : Nat → Nat) (slot : Int) (w : World) (hsz : sz ≤ 255) (hle : len ≤ cap) (hcap : cap ≤ 9223372036854775807) (hu : Nums .u8 255 w a len s) (hs : (sz : Int) < slot) (_hs0 : slot ≤ 9223372036854775807) :
    Calls Try.prog 8 #[.int .u8 sz, .slice a len cap, .int .i64 slot] w fun e w' => e = .returned (.bool true) ∧ Below w.heap.size w w' := by
  obtain ⟨n, hn⟩ : ∃ n, n = sz + 1 := ⟨_, rfl⟩
  have EN : Hid ((1 : Int) + (sz : Int) = (n : Int)) := by unfold Hid; omega
  have hn256 : 1 ≤ n ∧ n ≤ 256 := by omega
  have HPT := Lib.hid (painted_ok n a len cap s w (by omega) (by omega) hle hcap hu)
  have HNS := Lib.hid hn
  clear hu hn
  go_enter Try.func8, Try.ntmps8
  go_wp2_with fail
  rw [EN.out]
  refine HPT.out.mono ?_
  rintro e w1 ⟨b, P, hP, rfl, s1⟩
  have HP := Lib.hid hP
  have S1 := Lib.hid s1
  have hs2 : (n : Int) ≤ slot := by have := HNS.out; omega
  have hs3 : 0 ≤ slot := by omega
  have OF : Hid (Off n (slot)) := by unfold Hid Off; have := HNS.out; omega
  clear HPT hP s1
  go_wp2_with fail
  refine (colours_ok b n P _ S1.out.p HP.out).mono ?_
  rintro e w2 ⟨g, _, rfl, hl, hb⟩
  have C2 : Hid (Col w w2 b g n P) := ⟨S1.out.quiet hb, hl⟩
  clear hl hb S1
  obtain ⟨i, hi⟩ : ∃ i, slot = i := ⟨_, rfl⟩
  rw [hi] at OF ⊢
  clear hi
  have hnil := nil_no g n n
  clear hs _hs0 hs2 hs3
  go_wp2_with (first
    | (go_at_call 25; refine (C2.out.of_off OF.out HP.out).mono ?_; rintro e w' ⟨rfl, rfl⟩)
    | (go_at_call 12; refine (C2.out.shade_off OF.out HP.out).mono ?_; rintro e w3 ⟨rfl, h⟩; have C3 := Lib.hid h; clear h)
    | (go_at_call 14; refine (C3.out.black_off OF.out HP.out).mono ?_; rintro e w4 ⟨rfl, h⟩; have C4 := Lib.hid h; clear h)
    | (go_at_call 16; refine (C4.out.born_off OF.out HP.out).mono ?_; rintro e w5 ⟨rfl, h⟩; have C5 := Lib.hid h; clear h)
    | (go_at_call 18; refine (C5.out.bleach_off OF.out HP.out).mono ?_; rintro e w6 ⟨rfl, h⟩; have C6 := Lib.hid h; clear h)
    | fail)
  refine (copy_ok b P _ C6.out.c.p).mono ?_
  rintro e w7 ⟨rfl, hp, hb⟩
  have T7 : Hid (Two w w7 b g n P w6.heap.size P) := ⟨C6.out.quiet hb, ⟨hp, bel2 C6.out.c.bel hb, C6.out.c.bel.size⟩, Nat.ne_of_lt C6.out.c.p.bt, Nat.ne_of_lt C6.out.l.lt⟩
  clear hp hb C2 C3 C4 C5
  obtain ⟨c, hc⟩ : ∃ c, w6.heap.size = c := ⟨_, rfl⟩
  rw [hc] at T7 ⊢
  clear hc C6
  go_wp2_with fail
  refine (clear_s T7.out.q).mono ?_
  rintro e w8 ⟨rfl, h8, k8⟩
  rw [HP.out] at h8
  have T8 := Lib.hid (T7.out.step h8 k8)
  clear h8 k8 T7
  obtain ⟨z0, z1, z2⟩ := white_cnt n
  have HZ := Lib.hid (And.intro z0 (And.intro z1 z2))
  clear z0 z1 z2
  go_wp2_with fail
  refine (counts_s n 0 0 T8.out.q HZ.out.1 HZ.out.2.1 HZ.out.2.2).mono ?_
  rintro e w9 ⟨rfl, _, hb⟩
  have T9 := Lib.hid (T8.out.quiet hb)
  clear hb T8
  go_wp2_with fail
  refine (colours_ok b n P _ T9.out.a.c.p HP.out).mono ?_
  rintro e wa ⟨h, _, rfl, hl, hb⟩
  have CA := Lib.hid (T9.out.a.quiet hb)
  have LA := Lib.hid hl
  have hnil2 := nil_no h n n
  clear hb T9 hl
  go_wp2
  go_loopw [119] (fun v wr => ∃ k : Nat, k ≤ n ∧ v = .int .i64 k ∧ Hid (Col w wr b g n P) ∧ Hid (Bl wr h n P.c)) (fun v _ => n - (intOf v).toNat)
  case atStart => exact ⟨0, Nat.zero_le _, rfl, CA.out, LA.out⟩
  case round =>
    obtain ⟨k, hk, rfl, HC, HL⟩ := hrel
    by_cases hlt : k < n
    · have hv := HC.out.l.val hlt
      have hv2 := HL.out.val hlt
      have hgl := HC.out.l.lt
      have hhl := HL.out.lt
      generalize P.c k = x at *
      have hxx : ((x : Int) != (x : Int)) = false := by simp
      go_wp2
      go_quiet (fail)
      go_wp2
      go_roundw
      case rel => exact ⟨k + 1, by omega, by go_num, HC.out.quiet (bel_drewN (Below.refl _ _) _), HL.out.drewN _⟩
      case measure => simp [intOf]; omega
    · obtain rfl : k = n := by omega
      clear hlt hnil hnil2
      go_wp2
      have SB : Hid (Bad w (wr.alloc (.cells #[.int .i64 0, .int .i64 (-(sz : Int)), .int .i64 (256 + (k : Int))] 3)) wr.heap.size 0 (-(sz : Int)) (256 + (k : Int))) := ⟨Bk.new _ _ _, bel2 HC.out.c.bel (bel_new _ _)⟩
      generalize wr.heap.size = A at *
      generalize wr.alloc (.cells #[.int .i64 0, .int .i64 (-(sz : Int)), .int .i64 (256 + (k : Int))] 3) = wr2 at *
      go_loopw [139] (fun v wq => ∃ j : Nat, j ≤ 3 ∧ v = .int .i64 j ∧ Hid (Bad w wq A 0 (-(sz : Int)) (256 + (k : Int)))) (fun v _ => 3 - (intOf v).toNat)
      case atStart => exact ⟨0, by omega, rfl, SB.out⟩
      case round =>
        clear SB
        obtain ⟨j, hj, rfl, HD⟩ := hrel
        by_cases hlt : j < 3
        · have hv : ∃ v : Int, (v < 1 ∨ 256 < v) ∧ wr.cell? ⟨A, j, none⟩ = some (.int .i64 v) := by
            match j, hlt with
            | 0, _ => exact ⟨0, by omega, HD.out.bk.cell 0⟩
            | 1, _ => exact ⟨_, by omega, HD.out.bk.cell 1⟩
            | 2, _ => exact ⟨_, by omega, HD.out.bk.cell 2⟩
          obtain ⟨v, hvv, hc⟩ := hv
          have HV := Lib.hid hvv
          have hlA := HD.out.bk.lt
          clear hvv
          go_wp2_with (go_at_call 10; refine (new_bad _ _ HV.out).mono ?_; rintro e w' ⟨rfl, rfl⟩)
          go_roundw
          case rel => exact ⟨j + 1, by omega, by go_num, HD.out⟩
          case measure => simp [intOf]; omega
        · obtain rfl : j = 3 := by omega
          go_wp2_with fail
          refine (works_ok _).mono ?_
          rintro e wz ⟨rfl, hb⟩
          have HB := Lib.hid (bel2 HD.out.bel hb)
          clear hb
          go_wp2
          go_ret
          exact ⟨rfl, HB.out⟩
theorem cSta_walk (sz : Int) (a : Option Addr) (len cap : Nat) (s : Nat → Nat) (slot : Int) (w : World) (g0 : 0 ≤ sz) (g1 : sz ≤ 255) (hle : len ≤ cap) (hcap : cap ≤ 9223372036854775807) (hu : Nums .u8 255 w a len s) (h0 : -9223372036854775808 ≤ slot) (h1 : slot ≤ 9223372036854775807) :
    Calls Try.prog 8 #[.int .u8 sz, .slice a len cap, .int .i64 slot] w fun e w' => e = .returned (.bool true) ∧ Below w.heap.size w w' := by
  obtain ⟨m, rfl⟩ := Int.eq_ofNat_of_zero_le g0
  by_cases h2 : slot < 0
  · exact stays_neg m a len cap s slot w (by omega) hle hcap hu h2 h0
  · by_cases h3 : slot ≤ (m : Int)
    · exact stays_in m a len cap s slot w (by omega) hle hcap hu (by omega) h3
    · exact stays_big m a len cap s slot w (by omega) hle hcap hu (by omega) h1
end Go.Proofs.Ythcpmcdgojgdlaa
