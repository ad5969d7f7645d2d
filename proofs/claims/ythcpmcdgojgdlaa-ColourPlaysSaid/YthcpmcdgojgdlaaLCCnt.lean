/- The walk of the statement ColourCounts: it returns true for all sizes, numbers and places. -/
import Derived.Test.YthcpmcdgojgdlaaLCSta
namespace Go.Proofs.Ythcpmcdgojgdlaa
open Go.RowKit

/-- The three numbers, as far as they are counted. -/
structure CtL (w0 w : World) (b g n A : Nat) (P : Pt) (k : Nat) : Prop where
  c : Col w0 w b g n P
  a : Bk w A 59 (three (P.cntTo 0 k) (P.cntTo 1 k) (P.cntTo 2 k))
  lo : w0.heap.size ≤ A
theorem CtL.quiet {w0 w w' : World} {b g n A : Nat} {P : Pt} {k : Nat} (h : CtL w0 w b g n A P k) (q : Below w.heap.size w w') : CtL w0 w' b g n A P k := ⟨h.c.quiet q, h.a.below q, h.lo⟩
theorem CtL.put {w0 w : World} {b g n A : Nat} {P : Pt} {k j v : Nat} (h : CtL w0 w b g n A P k) (e : (three (P.cntTo 0 k) (P.cntTo 1 k) (P.cntTo 2 k)).setIfInBounds j (.int .i64 v) = three (P.cntTo 0 (k + 1)) (P.cntTo 1 (k + 1)) (P.cntTo 2 (k + 1))) :
    CtL w0 (w.setCell ⟨A, j, none⟩ (.int .i64 v)) b g n A P (k + 1) := by
  have hq : Kept (· = A) w (w.setCell ⟨A, j, none⟩ (.int .i64 v)) := (Kept.refl _ w).put1 _ _
  have hg : g ≠ A := by
    rintro rfl
    obtain ⟨cur, h1, _⟩ := h.c.l
    exact absurd (h1.uniq h.a).1 (by decide)
  have hb : b ≠ A := by
    rintro rfl
    exact absurd (h.c.c.p.bk.uniq h.a).1 (by decide)
  refine ⟨⟨h.c.c.other hq h.lo hb, h.c.l.kept hq hg⟩, ?_, h.lo⟩
  rw [← e]
  exact h.a.put j _
theorem three_put0 (x y z v : Nat) : (three x y z).setIfInBounds 0 (.int .i64 v) = three v y z := rfl
theorem three_put1 (x y z v : Nat) : (three x y z).setIfInBounds 1 (.int .i64 v) = three x v z := rfl
theorem three_put2 (x y z v : Nat) : (three x y z).setIfInBounds 2 (.int .i64 v) = three x y v := rfl
/-- Where the search goes on when it has come to i: the next place is below the first grey slot from i on. -/
def At (P : Pt) (from_ : Int) (i : Nat) (at_ : Int) : Prop := P.greys at_ = selFrom P.c 1 (max i from_.toNat) P.n
theorem at_zero (P : Pt) (f : Int) : At P f 0 f := by unfold At Pt.greys; rw [Nat.zero_max]
theorem at_skip {P : Pt} {f : Int} {i : Nat} {a : Int} (h : At P f i a) (hs : (i : Int) < f ∨ P.c i ≠ 1) : At P f (i + 1) a := by
  unfold At at h ⊢
  rw [h]
  by_cases hf : (i : Int) < f
  · congr 1; omega
  · have hc : P.c i ≠ 1 := by rcases hs with hs | hs; exact absurd hs hf; exact hs
    rw [Nat.max_eq_left (by omega), Nat.max_eq_left (by omega)]
    by_cases hn : i < P.n
    · rw [selFrom_step P.c 1 hn, if_neg hc, List.nil_append]
    · rw [selFrom_done P.c 1 (by omega), selFrom_done P.c 1 (by omega)]
theorem at_hit {P : Pt} {f : Int} {i : Nat} {a : Int} (h : At P f i a) (hs : ¬ (i : Int) < f) (hc : P.c i = 1) (hn : i < P.n) : (P.greys a).headD 0 = i ∧ (!(P.greys a).isEmpty) = true ∧ At P f (i + 1) ((i : Int) + 1) := by
  unfold At at h ⊢
  rw [h, Nat.max_eq_left (by omega), Nat.max_eq_left (by omega), selFrom_step P.c 1 hn, if_pos hc]
  refine ⟨rfl, rfl, ?_⟩
  unfold Pt.greys
  congr 1
theorem at_end {P : Pt} {f : Int} {a : Int} (h : At P f P.n a) : (P.greys a).headD 0 = 0 ∧ (!(P.greys a).isEmpty) = false := by
  unfold At at h
  rw [h, selFrom_done P.c 1 (by omega)]
  exact ⟨rfl, rfl⟩
theorem grey_any (P : Pt) : (!(P.greys 0).isEmpty) = decide (0 < P.cnt 1) := by
  unfold Pt.greys Pt.cnt
  rw [show (0 : Int).toNat = 0 from rfl, selFrom_zero]
  cases sel P.c 1 P.n <;> simp
set_option maxRecDepth 100000 in
set_option maxHeartbeats 16000000 in
theorem counts_core (sz : Nat) (a : Option Addr) (len cap : Nat) (s : Nat → Nat) (fr : Int) (w : World) (hsz : sz ≤ 255) (hle : len ≤ cap) (hcap : cap ≤ 9223372036854775807) (hu : Nums .u8 255 w a len s) (h63 : fr ≤ 9223372036854775807) :
    Calls Try.prog 6 #[.int .u8 sz, .slice a len cap, .int .i64 fr] w fun e w' => e = .returned (.bool true) ∧ Below w.heap.size w w' := by
  obtain ⟨n, hn⟩ : ∃ n, n = sz + 1 := ⟨_, rfl⟩
  have EN : Hid ((1 : Int) + (sz : Int) = (n : Int)) := by unfold Hid; omega
  have hn256 : 1 ≤ n ∧ n ≤ 256 := by omega
  have HPT := Lib.hid (painted_ok n a len cap s w (by omega) (by omega) hle hcap hu)
  have H63 := Lib.hid h63
  clear hu hn h63
  go_enter Try.func6, Try.ntmps6
  go_wp2_with fail
  rw [EN.out]
  refine HPT.out.mono ?_
  rintro e w1 ⟨b, P, hP, rfl, s1⟩
  have HP := Lib.hid hP
  have S1 := Lib.hid s1
  clear HPT hP s1
  go_wp2_with fail
  refine (colours_ok b n P _ S1.out.p HP.out).mono ?_
  rintro e w2 ⟨g, _, rfl, hl, hb⟩
  have C2 : Hid (Col w w2 b g n P) := ⟨S1.out.quiet hb, hl⟩
  have hnil := nil_no g n n
  clear hl hb S1
  go_wp2
  have CT : Hid (CtL w (w2.alloc (.cells #[.int .i64 0, .int .i64 0, .int .i64 0] 59)) b g n w2.heap.size P 0) := ⟨C2.out.quiet (bel_new _ _), Bk.new _ _ _, C2.out.c.bel.size⟩
  generalize w2.heap.size = A at *
  generalize w2.alloc (.cells #[.int .i64 0, .int .i64 0, .int .i64 0] 59) = w3 at *
  clear C2 hnil
  go_loopw [38] (fun v wr => ∃ k : Nat, k ≤ n ∧ v = .int .i64 k ∧ Hid (CtL w wr b g n A P k)) (fun v _ => n - (intOf v).toNat)
  case atStart => exact ⟨0, Nat.zero_le _, rfl, CT.out⟩
  case round =>
    obtain ⟨k, hk, rfl, HS⟩ := hrel
    clear CT
    have hlA := HS.out.a.lt
    have hl0 := P.cntTo_le 0 k
    have hl1 := P.cntTo_le 1 k
    have hl2 := P.cntTo_le 2 k
    by_cases hlt : k < n
    · have hx := HS.out.c.c.p.ok.le k
      have hv := HS.out.c.l.val hlt
      have hgl := HS.out.c.l.lt
      have s0 := P.cntTo_succ 0 k
      have s1 := P.cntTo_succ 1 k
      have s2 := P.cntTo_succ 2 k
      have a0 : wr.cell? ⟨A, 0, none⟩ = some (.int .i64 (P.cntTo 0 k)) := HS.out.a.cell 0
      have a1 : wr.cell? ⟨A, 1, none⟩ = some (.int .i64 (P.cntTo 1 k)) := HS.out.a.cell 1
      have a2 : wr.cell? ⟨A, 2, none⟩ = some (.int .i64 (P.cntTo 2 k)) := HS.out.a.cell 2
      have f0 := HS.out.a.frozen 0
      have f1 := HS.out.a.frozen 1
      have f2 := HS.out.a.frozen 2
      have HN := Lib.hid (And.intro s0 (And.intro s1 s2))
      clear s0 s1 s2
      have hx3 : P.c k = 0 ∨ P.c k = 1 ∨ P.c k = 2 := by omega
      rcases hx3 with hx | hx | hx
      · rw [hx] at hv HN
        clear hx
        have PUT := Lib.hid (HS.out.put (j := 0) (v := P.cntTo 0 k + 1) (by rw [HN.out.1, HN.out.2.1, HN.out.2.2, three_put0]; rfl))
        go_wp2
        go_roundw
        case rel => exact ⟨k + 1, by omega, by go_num, PUT.out⟩
        case measure => simp [intOf]; omega
      · rw [hx] at hv HN
        clear hx
        have PUT := Lib.hid (HS.out.put (j := 1) (v := P.cntTo 1 k + 1) (by rw [HN.out.1, HN.out.2.1, HN.out.2.2, three_put1]; rfl))
        go_wp2
        go_roundw
        case rel => exact ⟨k + 1, by omega, by go_num, PUT.out⟩
        case measure => simp [intOf]; omega
      · rw [hx] at hv HN
        clear hx
        have PUT := Lib.hid (HS.out.put (j := 2) (v := P.cntTo 2 k + 1) (by rw [HN.out.1, HN.out.2.1, HN.out.2.2, three_put2]; rfl))
        go_wp2
        go_roundw
        case rel => exact ⟨k + 1, by omega, by go_num, PUT.out⟩
        case measure => simp [intOf]; omega
    · obtain rfl : k = n := by omega
      have b0 : P.cntTo 0 k ≤ k := hl0
      have hall := P.cnt_all HS.out.c.c.p.ok
      have E0 : P.cnt 0 = P.cntTo 0 k := by unfold Pt.cnt Pt.cntTo; rw [HP.out]
      have E1 : P.cnt 1 = P.cntTo 1 k := by unfold Pt.cnt Pt.cntTo; rw [HP.out]
      have E2 : P.cnt 2 = P.cntTo 2 k := by unfold Pt.cnt Pt.cntTo; rw [HP.out]
      rw [E0, E1, E2, HP.out] at hall
      have GA := Lib.hid (grey_any P)
      have CTS := Lib.hid HS.out.a
      rw [E1] at GA
      have EE := Lib.hid (And.intro E0 (And.intro E1 E2))
      clear hlt hlA E0 E1 E2 b0
      generalize P.cntTo 0 k = x0 at *
      generalize P.cntTo 1 k = x1 at *
      generalize P.cntTo 2 k = x2 at *
      have hsum : ((x0 : Int) + (x1 : Int) + (x2 : Int) != (k : Int)) = false := by simp; omega
      have q0 : ((x0 : Int) != (x0 : Int)) = false := by simp
      have q1 : ((x1 : Int) != (x1 : Int)) = false := by simp
      have q2 : ((x2 : Int) != (x2 : Int)) = false := by simp
      clear hall
      go_wp2_with fail
      refine (counts_s x0 x1 x2 HS.out.c.c EE.out.1 EE.out.2.1 EE.out.2.2).mono ?_
      rintro e w4 ⟨rfl, _, hb⟩
      have C4 := Lib.hid (HS.out.c.quiet hb)
      have A4 := Lib.hid (CTS.out.below hb)
      clear hb
      go_wp2_with fail
      refine (grey_s 0 _ _ C4.out.c (by decide) rfl GA.out).mono ?_
      rintro e w5 ⟨rfl, _, hb⟩
      have C5 := Lib.hid (C4.out.quiet hb)
      have A5 := Lib.hid (A4.out.below hb)
      have a0 : w5.cell? ⟨A, 0, none⟩ = some (.int .i64 x0) := A5.out.cell 0
      have a1 : w5.cell? ⟨A, 1, none⟩ = some (.int .i64 x1) := A5.out.cell 1
      have a2 : w5.cell? ⟨A, 2, none⟩ = some (.int .i64 x2) := A5.out.cell 2
      have hlA := A5.out.lt
      clear hb C4 A4 HS CTS
      generalize (P.greys 0).headD 0 = y0
      by_cases hx1 : 0 < x1
      · rw [decide_eq_true hx1]
        go_wp2
        clear a0 a1 a2 q0 q1 q2 hsum hl0 hl1 hl2 hlA
        go_loopw [18, 92] (fun av v wr => ∃ (i : Nat) (at_ : Int), i ≤ k ∧ av = .int .i64 at_ ∧ v = .int .i64 i ∧ at_ ≤ 9223372036854775807 ∧ Hid (At P fr i at_) ∧ Hid (Col w wr b g k P)) (fun _ v _ => k - (intOf v).toNat)
        case atStart => exact ⟨0, fr, Nat.zero_le _, rfl, rfl, H63.out, at_zero P fr, C5.out⟩
        case round =>
          obtain ⟨i, at_, hi, rfl, rfl, hat, HAT, HC⟩ := hrel
          by_cases hlt : i < k
          · by_cases hf : (i : Int) < fr
            · go_wp2
              go_roundw
              case rel => exact ⟨i + 1, at_, by omega, rfl, by go_num, hat, at_skip HAT.out (.inl hf), HC.out⟩
              case measure => simp [intOf]; omega
            · have hv := HC.out.l.val hlt
              have hgl := HC.out.l.lt
              by_cases hc : P.c i = 1
              · have HIT := Lib.hid (at_hit HAT.out hf hc (by have := HP.out; omega))
                rw [hc] at hv
                have hii : ((i : Int) != (i : Int)) = false := by simp
                clear hc
                go_wp2_with (go_at_call 26; refine (grey_s _ _ _ HC.out.c hat HIT.out.1 HIT.out.2.1).mono ?_; rintro e w6 ⟨rfl, _, hb⟩; have HC6 := Lib.hid (HC.out.quiet hb); clear hb)
                go_roundw
                case rel => exact ⟨i + 1, (i : Int) + 1, by omega, rfl, by go_num, by omega, HIT.out.2.2, HC6.out⟩
                case measure => simp [intOf]; omega
              · have HSK := Lib.hid (at_skip HAT.out (.inr hc))
                generalize P.c i = y at *
                have hy : ((y : Int) != 1) = true := by simp; omega
                clear hc
                go_wp2
                go_roundw
                case rel => exact ⟨i + 1, at_, by omega, rfl, by go_num, hat, HSK.out, HC.out⟩
                case measure => simp [intOf]; omega
          · obtain rfl : i = k := by omega
            have HEN := HAT.out
            rw [← HP.out] at HEN
            have HEND := Lib.hid (at_end HEN)
            clear HEN hlt
            go_wp2_with (first
              | (go_at_call 26; refine (grey_s _ _ _ HC.out.c hat HEND.out.1 HEND.out.2).mono ?_; rintro e w6 ⟨rfl, _, hb⟩; have HC6 := Lib.hid (HC.out.quiet hb); clear hb)
              | (go_at_call 9; refine (works_ok _).mono ?_; rintro e w7 ⟨rfl, hb⟩; have HB7 := Lib.hid (bel2 HC6.out.c.bel hb); clear hb))
            go_ret
            exact ⟨rfl, HB7.out⟩
      · rw [decide_eq_false hx1]
        go_wp2
        clear a0 a1 a2 q0 q1 q2 hsum hl0 hl1 hl2 hlA
        go_loopw [18, 92] (fun av v wr => ∃ (i : Nat) (at_ : Int), i ≤ k ∧ av = .int .i64 at_ ∧ v = .int .i64 i ∧ at_ ≤ 9223372036854775807 ∧ Hid (At P fr i at_) ∧ Hid (Col w wr b g k P)) (fun _ v _ => k - (intOf v).toNat)
        case atStart => exact ⟨0, fr, Nat.zero_le _, rfl, rfl, H63.out, at_zero P fr, C5.out⟩
        case round =>
          obtain ⟨i, at_, hi, rfl, rfl, hat, HAT, HC⟩ := hrel
          by_cases hlt : i < k
          · by_cases hf : (i : Int) < fr
            · go_wp2
              go_roundw
              case rel => exact ⟨i + 1, at_, by omega, rfl, by go_num, hat, at_skip HAT.out (.inl hf), HC.out⟩
              case measure => simp [intOf]; omega
            · have hv := HC.out.l.val hlt
              have hgl := HC.out.l.lt
              by_cases hc : P.c i = 1
              · have HIT := Lib.hid (at_hit HAT.out hf hc (by have := HP.out; omega))
                rw [hc] at hv
                have hii : ((i : Int) != (i : Int)) = false := by simp
                clear hc
                go_wp2_with (go_at_call 26; refine (grey_s _ _ _ HC.out.c hat HIT.out.1 HIT.out.2.1).mono ?_; rintro e w6 ⟨rfl, _, hb⟩; have HC6 := Lib.hid (HC.out.quiet hb); clear hb)
                go_roundw
                case rel => exact ⟨i + 1, (i : Int) + 1, by omega, rfl, by go_num, by omega, HIT.out.2.2, HC6.out⟩
                case measure => simp [intOf]; omega
              · have HSK := Lib.hid (at_skip HAT.out (.inr hc))
                generalize P.c i = y at *
                have hy : ((y : Int) != 1) = true := by simp; omega
                clear hc
                go_wp2
                go_roundw
                case rel => exact ⟨i + 1, at_, by omega, rfl, by go_num, hat, HSK.out, HC.out⟩
                case measure => simp [intOf]; omega
          · obtain rfl : i = k := by omega
            have HEN := HAT.out
            rw [← HP.out] at HEN
            have HEND := Lib.hid (at_end HEN)
            clear HEN hlt
            go_wp2_with (first
              | (go_at_call 26; refine (grey_s _ _ _ HC.out.c hat HEND.out.1 HEND.out.2).mono ?_; rintro e w6 ⟨rfl, _, hb⟩; have HC6 := Lib.hid (HC.out.quiet hb); clear hb)
              | (go_at_call 9; refine (works_ok _).mono ?_; rintro e w7 ⟨rfl, hb⟩; have HB7 := Lib.hid (bel2 HC6.out.c.bel hb); clear hb))
            go_ret
            exact ⟨rfl, HB7.out⟩
theorem cCnt_walk (sz : Int) (a : Option Addr) (len cap : Nat) (s : Nat → Nat) (fr : Int) (w : World) (g0 : 0 ≤ sz) (g1 : sz ≤ 255) (hle : len ≤ cap) (hcap : cap ≤ 9223372036854775807) (hu : Nums .u8 255 w a len s) (_ : -9223372036854775808 ≤ fr) (h1 : fr ≤ 9223372036854775807) :
    Calls Try.prog 6 #[.int .u8 sz, .slice a len cap, .int .i64 fr] w fun e w' => e = .returned (.bool true) ∧ Below w.heap.size w w' := by
  obtain ⟨m, rfl⟩ := Int.eq_ofNat_of_zero_le g0
  exact counts_core m a len cap s fr w (by omega) hle hcap hu h1
end Go.Proofs.Ythcpmcdgojgdlaa
