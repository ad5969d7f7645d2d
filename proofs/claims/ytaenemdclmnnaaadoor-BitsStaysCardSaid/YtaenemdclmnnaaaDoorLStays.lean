/- The walk of the statement BitsStays: it returns true for all sizes, lists and numbers. -/
import Derived.Test.YtaenemdclmnnaaaDoorLNext
namespace Go.Proofs.YtaenemdclmnnaaaDoor
open Go.RowKit

/-- The state of a set s, the answers has, another set o, all laid since w1. -/
structure TSt (w0 w : World) (b g h n b2 g2 m : Nat) (F : Nat → Bool) : Prop where
  s : SetW w b g n F
  l : Bl w h n F
  o : SetW w b2 g2 m (fun _ => false)
  t : Tab w
  bel : Below w0.heap.size w0 w
theorem TSt.quiet {w0 w w' : World} {b g h n b2 g2 m : Nat} {F : Nat → Bool} (a : TSt w0 w b g h n b2 g2 m F) (k : Below w.heap.size w w') : TSt w0 w' b g h n b2 g2 m F :=
  ⟨a.s.below k, a.l.below k, a.o.below k, a.t.below k, a.bel.trans (k.mono a.bel.size)⟩

/-- All, and then clear of what it returns: nothing of what was there has turned. -/
theorem clear_all (w : World) (v : Value) (l : List Nat) (h : w.ownsRow 0 3 1 v l.length (ints l)) (hl : l.length ≤ 4096) :
    ∃ w', (∀ ty, (Builtin.clear_ #[48] ty #[v]).run Tryd.prog w = .ok (.tuple #[]) w') ∧ Kept (fun k => v.ownBlock = some k) w w' := by
  rcases h.2 with ⟨rfl, h0⟩ | ⟨g, cap, cur, rfl, h1, h2, h3, h4, h5, h6⟩
  · exact ⟨w, fun ty => by simp [Builtin.clear_, run_underlying Tryd.underlying48], Kept.refl _ _⟩
  · by_cases h0 : 0 < l.length
    · refine ⟨w.setCells g 0 (List.replicate l.length (.int .i64 0)), fun ty => ?_, (setCells_kept g _ 0 w).mono fun k _ e => by simp [Value.ownBlock, e]⟩
      have hb : Bk w g 3 cur := h2
      exact Lib.run_clear_slice w 48 3 ty (.int .i64 0) Tryd.underlying48 (fun w => by kernel_rfl) rfl rfl g 0 l.length cap h0 (fun j hj => by rw [Nat.zero_add, hb.cell, Array.getElem?_eq_getElem (by omega)]; rfl) (fun j _ => hb.frozen _)
    · have e : l.length = 0 := by omega
      rw [e]
      exact ⟨w, fun ty => by simp [Builtin.clear_, run_underlying Tryd.underlying48], Kept.refl _ _⟩

set_option maxRecDepth 100000 in
set_option maxHeartbeats 8000000 in
/-- Behind the first lines: i is no number of the set; the other set has another size, or the only one that there is. -/
theorem stays_core (sz : Int) (a : Option Addr) (len cap : Nat) (c : Nat → Nat) (i0 i : Int) (n m : Nat) (w : World) (hs0 : 0 ≤ sz) (hs1 : sz ≤ 65535) (hn : 1 + sz % 4096 = (n : Int)) (hm : 1 + n % 4096 = m) (hu : U16s w a len cap c)
    (hi : (0 ≤ i0 ∧ i0 < n ∧ i = i0 + n) ∨ (i0 < 0 ∧ i = i0) ∨ ((n : Int) ≤ i0 ∧ i = i0)) (h1 : i ≤ 9223372036854775807) (hT : Tab w) :
    Calls Tryd.prog 8 #[.int .u16 sz, .slice a len cap, .int .i64 i0] w fun e w' => e = .returned (.bool true) ∧ Below w.heap.size w w' := by
  have hn2 : 1 + sz.tmod 4096 = (n : Int) := by rw [Int.tmod_eq_emod_of_nonneg hs0]; exact hn
  have hn1 : 1 ≤ n := by omega
  have hn3 : n ≤ 4096 := by omega
  have hm0 : 1 + (n : Int) % 4096 = (m : Int) := by omega
  have hm2 : 1 + (n : Int).tmod 4096 = (m : Int) := by rw [Int.tmod_eq_emod_of_nonneg (by omega)]; exact hm0
  have hnm : n ≠ m := by omega
  have hm1 : 1 ≤ m := by omega
  have hm3 : m ≤ 4096 := by omega
  have hio : i < 0 ∨ (n : Int) ≤ i := by omega
  have HMADE := Lib.hid (made_ok n a len cap c w hn1 hn3 hu)
  have HT := Lib.hid hT
  have HIO := Lib.hid hio
  have HNM := Lib.hid hnm
  have HM := Lib.hid hm
  clear hT hu hio hnm hm
  rcases hi with ⟨ha, hb, rfl⟩ | ⟨ha, rfl⟩ | ⟨ha, rfl⟩
  all_goals
    go_enter Tryd.func8, Tryd.ntmps8
    go_wp2_with fail
    refine HMADE.out.mono ?_
    rintro e w1 ⟨b, g, h, p1, p2, p3, p4, rfl, hs, hl, hb⟩
    have ST0 : Hid (NSt w w1 b g h n (acc c n (min len 100))) := ⟨hs, hl, HT.out.below hb, hb⟩
    clear hs hl hb p1 p2 p3 p4 HMADE
    generalize acc c n (min len 100) = F at *
    go_wp2_with fail
    refine (new_ok m _ hm1 hm3).mono ?_
    rintro e w2 ⟨b2, g2, p1, p2, rfl, hs2, hb2⟩
    have ST : Hid (TSt w w2 b g h n b2 g2 m F) := ⟨ST0.out.s.below hb2, ST0.out.l.below hb2, hs2, ST0.out.t.below hb2, bel2 ST0.out.bel hb2⟩
    clear hs2 hb2 p1 p2 ST0
    go_wp2_with fail
    refine (add_out b g n F _ _ ST.out.s HIO.out).mono ?_
    rintro e w' ⟨rfl, rfl⟩
    go_wp2_with fail
    refine (remove_out b g n F _ _ ST.out.s HIO.out).mono ?_
    rintro e w' ⟨rfl, rfl⟩
    go_wp2_with fail
    refine (has_out b g n F _ _ ST.out.s HIO.out).mono ?_
    rintro e w' ⟨rfl, rfl⟩
    go_wp2_with fail
    refine (size_ok b2 g2 m _ _ ST.out.o).mono ?_
    rintro e w' ⟨rfl, rfl⟩
    have hne : ((n : Int) != (m : Int)) = true := by have := HNM.out; simp; omega
    go_wp2_with fail
    refine (union_arg b g n b2 g2 m F _ _ ST.out.s ST.out.o HNM.out).mono ?_
    rintro e w3 ⟨rfl, q3, rfl⟩
    have ST3 := Lib.hid (ST.out.quiet (bel_drewN (Below.refl _ _) q3))
    clear ST
    go_wp2_with fail
    refine (minus_arg b g n b2 g2 m F _ _ ST3.out.s ST3.out.o HNM.out).mono ?_
    rintro e w4 ⟨rfl, q4, rfl⟩
    have ST4 := Lib.hid (ST3.out.quiet (bel_drewN (Below.refl _ _) q4))
    clear ST3 hne
    generalize (w2.drewN q3).drewN q4 = w5 at *
    go_wp2_with fail
    refine (all_ok b g n F _ ST4.out.s ST4.out.t).mono ?_
    rintro e w6 ⟨v6, rfl, ho6, _, hb6⟩
    obtain ⟨w7, hcl, hk7⟩ := clear_all w6 v6 (lst F n) (ownsRow_lower ho6 (Nat.zero_le _)) (by have := lst_len F n; omega)
    have ST7 := Lib.hid (ST4.out.quiet (hb6.trans (hk7.below hb6.size (fun k hk => (ho6.lt k hk).1))))
    clear hk7 ho6 hb6 ST4
    go_wp2_with (simp only [hcl])
    clear hcl
    refine (copy_ok b g n F _ ST7.out.s).mono ?_
    rintro e w8 ⟨b3, g3, p1, p2, rfl, hs8, hb8⟩
    have S8 := Lib.hid hs8
    have B8 := Lib.hid hb8
    have P8 := Lib.hid p2
    clear hs8 hb8 p1 p2
    go_wp2_with fail
    refine (clear_ok b3 g3 n F _ S8.out).mono ?_
    rintro e w9 ⟨rfl, hs9, hk9⟩
    have S9 := Lib.hid hs9
    have B9 : Hid (Below w7.heap.size w7 w9) := B8.out.trans (kept_below hk9 B8.out.size P8.out)
    clear hs9 hk9 S8 B8
    obtain ⟨N1, hN1⟩ : ∃ N1, n - 1 = N1 := ⟨_, rfl⟩
    have hN2 : (n : Int) - 1 = (N1 : Int) := by omega
    have HN1 := Lib.hid hN1
    clear hN1
    go_wp2_with fail
    refine (add_in b3 g3 n _ N1 _ S9.out (by have := HN1.out; omega)).mono ?_
    rintro e w10 ⟨rfl, hs10, hk10⟩
    have S10 := Lib.hid hs10
    have ST10 := Lib.hid (ST7.out.quiet (B9.out.trans (kept_below hk10 B9.out.size P8.out)))
    clear hs10 hk10 S9 B9 ST7 P8
    go_wp2_with fail
    refine (all_s b g n F (lst F n) _ ST10.out.s ST10.out.t rfl).mono ?_
    rintro e w11 ⟨v11, rfl, hv11, _, hb11⟩
    have ST11 := Lib.hid (ST10.out.quiet hb11)
    have S11 := Lib.hid (S10.out.below hb11)
    have V11 := Lib.hid hv11
    clear hv11 hb11 ST10 S10
    go_wp2_with fail
    refine (listed_s h n n F (lst F n) _ hn3 ST11.out.l rfl).mono ?_
    rintro e w12 ⟨v12, rfl, hv12, _, hb12⟩
    have ST12 := Lib.hid (ST11.out.quiet hb12)
    have S12 := Lib.hid (S11.out.below hb12)
    have V12 := Lib.hid (V11.out.below hb12)
    have U12 := Lib.hid hv12
    clear hv12 hb12 ST11 S11 V11
    go_wp2_with fail
    refine (equal_yes _ _ (lst F n) _ V12.out U12.out).mono ?_
    rintro e w13 ⟨rfl, q13, rfl⟩
    have ST13 := Lib.hid (ST12.out.quiet (bel_drewN (Below.refl _ _) q13))
    have S13 := Lib.hid (S12.out.drewN q13)
    have HL1 : Hid (lst (upd (fun _ => false) N1 true) n = [N1]) := by
      unfold Hid
      have e : n = N1 + 1 := by have := HN1.out; omega
      rw [e, lst_snoc, upd_same, if_pos rfl]
      have e2 : lst (upd (fun _ => false) N1 true) N1 = [] := by
        unfold lst
        rw [List.filter_eq_nil_iff]
        intro x hx
        rw [upd_other (by have := List.mem_range.1 hx; omega)]; simp
      rw [e2]; rfl
    clear ST12 S12 V12 U12
    generalize w12.drewN q13 = w14 at *
    go_wp2_with fail
    refine (all_s b3 g3 n _ [N1] _ S13.out ST13.out.t HL1.out).mono ?_
    rintro e w15 ⟨v15, rfl, hv15, _, hb15⟩
    have ST15 := Lib.hid (ST13.out.quiet hb15)
    have V15 := Lib.hid hv15
    clear hv15 hb15 ST13 S13
    go_wp2_with fail
    refine (equal_yes _ _ [N1] _ (V15.out.below ((Below.refl _ w15).alloc (Nat.le_refl _) _)) (Sl.lit w15 [N1] (by simp))).mono ?_
    rintro e w16 ⟨rfl, q16, rfl⟩
    have ST16 := Lib.hid ((ST15.out.quiet ((Below.refl _ w15).alloc (Nat.le_refl _) (.cells (ints [N1]).toArray 3))).quiet (bel_drewN (Below.refl _ _) q16))
    clear ST15 V15
    generalize (w15.alloc (.cells (ints [N1]).toArray 3)).drewN q16 = w17 at *
    go_wp2_with fail
    refine (works_ok _ ST16.out.t).mono ?_
    rintro e w18 ⟨rfl, hb18⟩
    go_wp2
    go_ret
    exact ⟨rfl, bel2 ST16.out.bel hb18⟩

theorem stays_walk (sz : Int) (a : Option Addr) (len cap : Nat) (c : Nat → Nat) (i : Int) (w : World) (hs0 : 0 ≤ sz) (hs1 : sz ≤ 65535) (hu : U16s w a len cap c) (_h0 : -9223372036854775808 ≤ i) (h1 : i ≤ 9223372036854775807) (hT : Tab w) :
    Calls Tryd.prog 8 #[.int .u16 sz, .slice a len cap, .int .i64 i] w fun e w' => e = .returned (.bool true) ∧ Below w.heap.size w w' := by
  obtain ⟨n, hn⟩ : ∃ n : Nat, 1 + sz % 4096 = (n : Int) := ⟨(1 + sz % 4096).toNat, by omega⟩
  by_cases h : 0 ≤ i ∧ i < n
  · exact stays_core sz a len cap c i (i + n) n (1 + n % 4096) w hs0 hs1 hn rfl hu (.inl ⟨h.1, h.2, rfl⟩) (by omega) hT
  · by_cases h2 : i < 0
    · exact stays_core sz a len cap c i i n (1 + n % 4096) w hs0 hs1 hn rfl hu (.inr (.inl ⟨h2, rfl⟩)) h1 hT
    · exact stays_core sz a len cap c i i n (1 + n % 4096) w hs0 hs1 hn rfl hu (.inr (.inr ⟨by omega, rfl⟩)) h1 hT
end Go.Proofs.YtaenemdclmnnaaaDoor
