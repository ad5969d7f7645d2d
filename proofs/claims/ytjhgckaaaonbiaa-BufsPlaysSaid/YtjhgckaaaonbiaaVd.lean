/- The contracts of the document's Used, All, Len. -/
import Derived.Test.YtjhgckaaaonbiaaVa
import Derived.Test.YtjhgckaaaonbiaaUo
import Derived.Deep.Cut
import Derived.Deep.CutRange
namespace Go.Proofs.Ytjhgckaaaonbiaa
open Go.RowKit

/-! ### Used -/
def Po.us (P : Po) (k : Nat) : Nat := ((List.range k).map P.bx).sum
theorem us_snoc (P : Po) (k : Nat) : P.us (k + 1) = P.us k + P.bx k := by
  unfold Po.us
  rw [List.range_succ, List.map_append, List.sum_append]; simp
theorem us_sel (P : Po) : ∀ k, ((sel P.t.s 1 k).map P.m).sum = P.us k
  | 0 => rfl
  | k + 1 => by
    rw [sel_snoc, List.map_append, List.sum_append, us_sel P k, us_snoc]
    unfold Po.bx
    split <;> simp
theorem us_all (P : Po) : P.us P.t.n = P.used := (us_sel P P.t.n).symm
theorem us_le {P : Po} (h : P.Ok) : ∀ k, P.us k ≤ k * 65536
  | 0 => Nat.le_refl _
  | k + 1 => by
    have h1 := us_le h k
    have h2 : P.bx k ≤ 65536 := by unfold Po.bx; split; exact h.m k; omega
    rw [us_snoc]; omega
set_option maxHeartbeats 2000000 in
theorem dused_eq (c d : Nat) (F : Po) (w : World) (h : DW w c d F) : Calls Try.prog 31 #[.pointer (some ⟨c, 0, none⟩)] w fun e w' => e = .returned (.int .i64 F.used) ∧ w = w' := by
  obtain ⟨U0, hU0⟩ : ∃ U0, F.used = U0 := ⟨_, rfl⟩
  rw [hU0]
  have HU0 := Lib.hid hU0
  clear hU0
  obtain ⟨n, hn⟩ : ∃ n, F.t.n = n := ⟨_, rfl⟩
  have hnb : n ≤ 64 := by rw [← hn]; exact h.ok.hi
  have HN := Lib.hid hn
  have HD := Lib.hid h
  have HV := Lib.hid (dvalid_eq c d F w h)
  clear h hn
  go_enter Try.func31, Try.ntmps31
  go_wp2
  go_loopw [3, 4] (fun v u wr => ∃ i : Nat, i ≤ n ∧ v = .int .i64 (F.us i) ∧ u = .int .i64 i ∧ w = wr) (fun _ u _ => n - (intOf u).toNat)
  case atStart => exact ⟨0, Nat.zero_le _, rfl, rfl, rfl⟩
  case round =>
    obtain ⟨i, hi, rfl, rfl, rfl⟩ := hrel
    obtain ⟨cap, c0, c1, c2, hc1, hc2⟩ := HD.out.c0
    rw [HN.out] at c2 hc1
    clear c0 c1
    have hus := us_le HD.out.ok i
    by_cases hlt : i < n
    · obtain ⟨i0, i1, i2, i3⟩ := HD.out.ci (i := i) (by rw [HN.out]; exact hlt)
      have hus2 := us_le HD.out.ok (i + 1)
      have hst := us_snoc F i
      rw [hst] at hus2
      have HST := Lib.hid hst
      clear i0 i1 i2 hst
      generalize F.bx i = X at *
      obtain ⟨U, hU⟩ : ∃ U, F.us i = U := ⟨_, rfl⟩
      rw [hU] at hus hus2 HST ⊢
      have hU2 : (U : Int) ≤ 4194304 := by omega
      have hX2 : (X : Int) ≤ 4259840 := by omega
      clear hus hus2 hU
      go_wp2_with (go_at_call 30; (with_reducible refine HV.out.mono ?_); rintro e w2 ⟨rfl, rfl⟩)
      go_roundw
      case rel => exact ⟨i + 1, by omega, by rw [HST.out]; go_num, by go_num, trivial⟩
      case measure => simp [intOf]; omega
    · obtain rfl : i = n := by omega
      have e : F.us i = U0 := by rw [← HU0.out, ← HN.out]; exact us_all F
      rw [e]
      clear e hus
      go_wp2_with (go_at_call 30; (with_reducible refine HV.out.mono ?_); rintro e w2 ⟨rfl, rfl⟩)
      go_ret
      exact ⟨rfl, rfl⟩

/-! ### All, Len -/
/-- What is pinned below id i. -/
def Po.upto (F : Po) (i : Nat) : List Ro := (sel F.t.s 1 i).map fun (j : Nat) => ⟨2, (j : Int), (F.t.g j : Int)⟩
theorem upto_all (F : Po) : F.upto F.t.n = F.all := by simp [Po.upto, Po.all, Tb.now, Tb.held, Tb.refs, bro, Function.comp_def]
theorem upto_yes {F : Po} {i : Nat} (h : F.t.s i = 1) : F.upto (i + 1) = F.upto i ++ [⟨2, (i : Int), (F.t.g i : Int)⟩] := by
  unfold Po.upto; rw [sel_snoc, if_pos h, List.map_append]; rfl
theorem upto_no {F : Po} {i : Nat} (h : F.t.s i ≠ 1) : F.upto (i + 1) = F.upto i := by
  unfold Po.upto; rw [sel_snoc, if_neg h, List.append_nil]
theorem upto_len (F : Po) (i : Nat) : (F.upto i).length ≤ i := by
  unfold Po.upto; rw [List.length_map]; exact sel_len _ _ _
set_option maxHeartbeats 4000000 in
theorem dall_ok (c d : Nat) (F : Po) (w : World) (h : DW w c d F) : Calls Try.prog 36 #[.pointer (some ⟨c, 0, none⟩)] w (NewO F.all w) := by
  obtain ⟨n, hn⟩ : ∃ n, F.t.n = n := ⟨_, rfl⟩
  have hnb : n ≤ 64 := by rw [← hn]; exact h.ok.hi
  have HN := Lib.hid hn
  have HD0 := Lib.hid h
  have O0 : Hid (w.ownsRow w.heap.size 34 3 (.slice none 0 0) (F.upto 0).length (ocls (F.upto 0))) := World.ownsRow_nil _ _ _ _
  clear h hn
  go_enter Try.func36, Try.ntmps36
  go_wp2
  go_loopw [3, 4] (fun v u wr => ∃ i q p c', i ≤ n ∧ v = .slice p q c' ∧ u = .int .i64 (i : Nat) ∧ Hid ((F.upto i).length = q) ∧ Hid (wr.ownsRow w.heap.size 34 3 (.slice p q c') (F.upto i).length (ocls (F.upto i))) ∧ Hid (Below w.heap.size w wr)) (fun _ u _ => n - (intOf u).toNat)
  case atStart => exact ⟨0, 0, none, 0, Nat.zero_le _, rfl, rfl, rfl, O0.out, Below.refl _ _⟩
  case round =>
    clear O0
    obtain ⟨i, q, p, c', hi, rfl, rfl, HQ, HO, HB⟩ := hrel
    have HD := Lib.hid (HD0.out.below HB.out)
    have HV := Lib.hid (dvalid_eq c d F wr HD.out)
    obtain ⟨cap, c0, c1, c2, hc1, hc2⟩ := HD.out.c0
    rw [HN.out] at c2 hc1
    clear c0 c1
    by_cases hlt : i < n
    · obtain ⟨i0, i1, i2, i3⟩ := HD.out.ci (i := i) (by rw [HN.out]; exact hlt)
      have hgm : F.t.g i ≤ 4294967295 := HD.out.ok.t.gm i
      clear i1 i3
      by_cases hs : F.t.s i = 1
      · have hu := upto_yes hs
        have hql : q ≤ 64 := by have := upto_len F i; have := HQ.out; omega
        have hb2 : w.heap.size ≤ wr.heap.size := HB.out.size
        rw [hs] at i0
        have j0 : wr.cell? ⟨d, i * 4, none⟩ = some (.bool true) := i0
        have HU := Lib.hid hu
        clear i0 hs hu
        generalize F.t.g i = fg at *
        have HO2 : Hid (wr.ownsRow w.heap.size 34 3 (.slice p q c') q (ocls (F.upto i))) := by have := HO.out; rwa [HQ.out] at this
        go_upto_region 6 with (go_at_call 30; (with_reducible refine HV.out.mono ?_); rintro e w2 ⟨rfl, rfl⟩)
        go_wp2_with (at_builtin; refine wpList_app_o rfl _ _ rfl ⟨2, i, fg⟩ rfl rfl HQ.out (HO2.out.alloc _) (Bk.new wr 34 #[.int .i64 2, .int .i64 i, .int .u32 fg]) (by rw [HQ.out]; omega) (by simp; omega) ?_)
        intro p' c2 w8 HA
        have HF : Hid (w8.ownsRow w.heap.size 34 3 (.slice p' (q + 1) c2) (F.upto (i + 1)).length (ocls (F.upto (i + 1))) ∧ (F.upto (i + 1)).length = q + 1 ∧ Below w.heap.size w w8) := by
          obtain ⟨h1, h2⟩ := HA.out
          rw [← show F.upto (i + 1) = F.upto i ++ [⟨2, (i : Int), (fg : Int)⟩] from HU.out] at h1
          refine ⟨h1, by rw [HU.out, List.length_append, HQ.out]; rfl, (HB.out.alloc hb2 _).trans (h2.below (by simp; omega) fun g e => (HO.out.lt g e).1)⟩
        clear HA
        go_wp2
        go_roundw
        case rel => exact ⟨i + 1, q + 1, p', c2, by omega, rfl, by go_num, HF.out.2.1, HF.out.1, HF.out.2.2⟩
        case measure => simp [intOf]; omega
      · have hu := upto_no hs
        have hb : (F.t.s i == 1) = false := by simp [hs]
        rw [hb] at i0
        have HU := Lib.hid hu
        clear hs hu hb
        go_wp2_with (go_at_call 30; (with_reducible refine HV.out.mono ?_); rintro e w2 ⟨rfl, rfl⟩)
        go_roundw
        case rel => exact ⟨i + 1, q, p, c', by omega, rfl, by go_num, by rw [HU.out]; exact HQ.out, by rw [HU.out]; exact HO.out, HB.out⟩
        case measure => simp [intOf]; omega
    · obtain rfl : i = n := by omega
      go_wp2_with (go_at_call 30; (with_reducible refine HV.out.mono ?_); rintro e w2 ⟨rfl, rfl⟩)
      go_ret
      have e : F.upto i = F.all := by rw [← HN.out]; exact upto_all F
      have hq := HQ.out
      have ho := HO.out
      rw [e] at hq ho
      subst hq
      exact ⟨p, c', rfl, ho, HB.out⟩
theorem dlen_ok (c d : Nat) (F : Po) (w : World) (h : DW w c d F) : Calls Try.prog 34 #[.pointer (some ⟨c, 0, none⟩)] w fun e w' => e = .returned (.int .i64 F.t.held.length) ∧ Below w.heap.size w w' := by
  have AL := Lib.hid (dall_ok c d F w h)
  have hl := F.all_len
  have hb := h.ok.held_len
  rw [← hl]
  rw [← hl] at hb
  clear hl
  generalize F.all = L at *
  clear h
  go_enter Try.func34, Try.ntmps34
  go_wp2_with (go_at_call 36; refine AL.out.mono ?_; rintro e w1 ⟨p, c', rfl, _, hb1⟩; have HB := Lib.hid hb1; clear hb1)
  go_ret
  exact ⟨rfl, HB.out⟩
end Go.Proofs.Ytjhgckaaaonbiaa
