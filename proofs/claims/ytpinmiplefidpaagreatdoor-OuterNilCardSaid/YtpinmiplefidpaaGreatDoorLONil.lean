/- The walk of OuterNil: it returns true for every input. -/
import Derived.Test.YtpinmiplefidpaaGreatDoorOx
namespace Go.Proofs.YtpinmiplefidpaaGreatDoor
open Go.RowKit

set_option maxRecDepth 100000 in
set_option maxHeartbeats 4000000 in
theorem oNil_walk (s : Sp) (w : World) (hs : s.Ok) (he : OEnv w) :
    Calls Tryz.prog 4 #[.agg s.cs] w fun e w' => e = .returned (.bool true) ∧ Below w.heap.size w w' := by
  obtain ⟨d, k, a, ⟨K, I, G⟩, y, x, t⟩ := s
  unfold Sp.cs
  dsimp only
  have n0 := Bk.new w 36 #[.int .i64 d, .int .i64 k, .int .i64 a, .int .i64 K, .int .i64 I, .int .u32 G, .int .i64 y, .int .i64 x, .string t]
  have b0 := bel_new w (.cells #[.int .i64 d, .int .i64 k, .int .i64 a, .int .i64 K, .int .i64 I, .int .u32 G, .int .i64 y, .int .i64 x, .string t] 36)
  have hst : ∀ (w : World) (b : Nat) (hb : Bk w b 36 #[.int .i64 d, .int .i64 k, .int .i64 a, .int .i64 K, .int .i64 I, .int .u32 G, .int .i64 y, .int .i64 x, .string t]), Sps w (some ⟨b, 0, none⟩) 1 (fun _ => ⟨d, k, a, ⟨K, I, G⟩, y, x, t⟩) := fun w b hb => ⟨fun _ => ⟨b, 0, rfl, hb.lt, fun j hj => by
    obtain rfl : j = 0 := by omega
    exact nine hb⟩, fun _ _ => hs⟩
  have hr : RgO K I G := hs.o
  have N0 := Lib.hid n0
  have B0 := Lib.hid b0
  have HS := Lib.hid hst
  have HE := Lib.hid he
  have HR := Lib.hid hr
  have HT := Lib.hid hs.t
  obtain ⟨c0, c1, c2, c3, c4, c5, c6, c7, c8⟩ := nine n0
  clear n0 b0 hst he hs hr
  generalize hv : w.alloc (.cells #[.int .i64 d, .int .i64 k, .int .i64 a, .int .i64 K, .int .i64 I, .int .u32 G, .int .i64 y, .int .i64 x, .string t] 36) = v at *
  have b1 := bel_new v (.cells #[.int .i64 d, .int .i64 k, .int .i64 a, .int .i64 K, .int .i64 I, .int .u32 G, .int .i64 y, .int .i64 x, .string t] 36)
  have n1 := Bk.new v 36 #[.int .i64 d, .int .i64 k, .int .i64 a, .int .i64 K, .int .i64 I, .int .u32 G, .int .i64 y, .int .i64 x, .string t]
  by_cases ht : t.size ≤ 40
  · have SH := Lib.hid (short_yes (some ⟨v.heap.size, 0, none⟩) 1 1 1 _ _ (Nat.le_refl _) (by decide) (by decide) (HS.out _ _ n1) ⟨Nat.le_refl _, fun _ _ => ht⟩)
    have B1 := Lib.hid (bel2 B0.out b1)
    have N1 := Lib.hid (N0.out.below b1)
    clear b1 n1
    go_enter Tryz.func4, Tryz.ntmps4
    go_wp2_with fail
    refine SH.out.mono ?_
    rintro e w2 ⟨rfl, b2⟩
    have B2 := Lib.hid (bel2 B1.out b2)
    have N2 := Lib.hid (N1.out.below b2)
    clear b2 SH B1 N1 c0 c1 c2 c3 c4 c5 c6 c7 c8
    have b3 := bel_new w2 (.cells #[.pointer none] 63)
    have n3 := Bk.new w2 63 #[.pointer none]
    have b4 := bel_new (w2.alloc (.cells #[.pointer none] 63)) (.cells #[.pointer none, .pointer (some ⟨w2.heap.size, 0, none⟩)] 28)
    have n4 := Bk.new (w2.alloc (.cells #[.pointer none] 63)) 28 #[.pointer none, .pointer (some ⟨w2.heap.size, 0, none⟩)]
    rw [World.size_alloc] at n4
    have NZ := Lib.hid (n3.below b4)
    have NL := Lib.hid n4
    have N4 := Lib.hid ((N2.out.below b3).below b4)
    have B4 := Lib.hid (bel2 (bel2 B2.out b3) b4)
    clear b3 n3 b4 n4 N2 B2
    go_wp2_with fail
    generalize (w2.alloc (.cells #[.pointer none] 63)).alloc (.cells #[.pointer none, .pointer (some ⟨w2.heap.size, 0, none⟩)] 28) = w4 at *
    go_loopw [5] (fun v wr => ∃ j : Nat, j ≤ 2 ∧ v = .int .i64 j ∧ Hid (Below w4.heap.size w4 wr)) (fun v _ => 2 - (intOf v).toNat)
    case atStart => exact ⟨0, Nat.zero_le _, rfl, Below.refl _ _⟩
    case round =>
      obtain ⟨j, hj, rfl, HB⟩ := hrel
      by_cases hlt : j < 2
      · have HP : ∃ p, wr.cell? ⟨w2.heap.size + 1, j, none⟩ = some (.pointer p) ∧ Hid (WInv wr p) := by
          by_cases j0 : j = 0
          · subst j0
            exact ⟨none, (NL.out.below HB.out).cell 0, .inl rfl⟩
          · obtain rfl : j = 1 := by omega
            exact ⟨some ⟨w2.heap.size, 0, none⟩, (NL.out.below HB.out).cell 1, .inr ⟨_, rfl, NZ.out.below HB.out⟩⟩
        obtain ⟨p, hp, HI⟩ := HP
        have NX := Lib.hid (N4.out.below HB.out)
        obtain ⟨c0, c1, c2, c3, c4, c5, c6, c7, c8⟩ := nine NX.out
        clear hj NZ NL N4
        go_wp2_with fail
        refine (wacq_no _ _ _ _ HI.out).mono ?_
        rintro e v1 ⟨rfl, hb1⟩
        have b := bel2 hb1 (bel_new v1 (.cells #[.int .i64 0, .int .i64 0, .int .u32 0] 25))
        have I1 := Lib.hid (HI.out.below b)
        have D1 := Lib.hid (bel2 HB.out b)
        have X1 := Lib.hid (NX.out.below b)
        have O1 := Lib.hid (Bk.new v1 25 #[.int .i64 0, .int .i64 0, .int .u32 0])
        clear hb1 b HI NX HB hp c0 c1 c2 c3 c4 c5 c6 c7 c8
        obtain ⟨c0, c1, c2, c3, c4, c5, c6, c7, c8⟩ := nine X1.out
        go_wp2_with fail
        generalize v1.alloc (.cells #[.int .i64 0, .int .i64 0, .int .u32 0] 25) = v2 at *
        generalize v1.heap.size = ob at *
        refine (wrel_no _ _ _ _ _ _ I1.out).mono ?_
        rintro e v3 ⟨rfl, hb⟩
        have I2 := Lib.hid (I1.out.below hb)
        have D2 := Lib.hid (bel2 D1.out hb)
        have X2 := Lib.hid (X1.out.below hb)
        have O2 := Lib.hid (O1.out.below hb)
        clear hb I1 D1 X1 O1 c0 c1 c2 c3 c4 c5 c6 c7 c8
        obtain ⟨c0, c1, c2, c3, c4, c5, c6, c7, c8⟩ := nine X2.out
        obtain ⟨o0, o1, o2⟩ := LS.cells3 O2.out
        go_wp2_with fail
        refine (wuntil_no _ _ _ _ _ I2.out).mono ?_
        rintro e v4 ⟨rfl, hb⟩
        have I3 := Lib.hid (I2.out.below hb)
        have D3 := Lib.hid (bel2 D2.out hb)
        have X3 := Lib.hid (X2.out.below hb)
        have O3 := Lib.hid (O2.out.below hb)
        clear hb I2 D2 X2 O2 c0 c1 c2 c3 c4 c5 c6 c7 c8 o0 o1 o2
        obtain ⟨c0, c1, c2, c3, c4, c5, c6, c7, c8⟩ := nine X3.out
        obtain ⟨o0, o1, o2⟩ := LS.cells3 O3.out
        go_wp2_with fail
        refine (wrenew_no _ _ _ _ _ _ I3.out HR.out).mono ?_
        rintro e v5 ⟨rfl, hb⟩
        have I4 := Lib.hid (I3.out.below hb)
        have D4 := Lib.hid (bel2 D3.out hb)
        have X4 := Lib.hid (X3.out.below hb)
        have O4 := Lib.hid (O3.out.below hb)
        clear hb I3 D3 X3 O3 c0 c1 c2 c3 c4 c5 c6 c7 c8 o0 o1 o2
        obtain ⟨c0, c1, c2, c3, c4, c5, c6, c7, c8⟩ := nine X4.out
        obtain ⟨o0, o1, o2⟩ := LS.cells3 O4.out
        go_wp2_with fail
        refine (wtick_no _ _ _ I4.out).mono ?_
        rintro e w' ⟨rfl, rfl⟩
        go_wp2_with fail
        refine (wanswer_no _ _ _ I4.out).mono ?_
        rintro e w' ⟨rfl, rfl⟩
        go_wp2_with fail
        refine (wnow_no _ _ I4.out).mono ?_
        rintro e w' ⟨rfl, rfl⟩
        go_wp2_with fail
        refine (whas_no _ _ _ _ _ I4.out).mono ?_
        rintro e v6 ⟨rfl, hb⟩
        have I5 := Lib.hid (I4.out.below hb)
        have D5 := Lib.hid (bel2 D4.out hb)
        have X5 := Lib.hid (X4.out.below hb)
        have O5 := Lib.hid (O4.out.below hb)
        clear hb I4 D4 X4 O4 c0 c1 c2 c3 c4 c5 c6 c7 c8 o0 o1 o2
        obtain ⟨c0, c1, c2, c3, c4, c5, c6, c7, c8⟩ := nine X5.out
        obtain ⟨o0, o1, o2⟩ := LS.cells3 O5.out
        go_wp2_with fail
        refine (wledger_no _ _ I5.out).mono ?_
        rintro e w' ⟨rfl, rfl⟩
        go_wp2_with fail
        refine (wall_no _ _ I5.out).mono ?_
        rintro e w' ⟨rfl, rfl⟩
        go_wp2_with fail
        refine (wcopy_no _ _ I5.out).mono ?_
        rintro e w' ⟨rfl, rfl⟩
        go_wp2
        go_roundw
        case rel => exact ⟨j + 1, by omega, by go_num, D5.out⟩
        case measure => simp [intOf]; omega
      · obtain rfl : j = 2 := by omega
        clear NZ NL N4
        have B5 := Lib.hid (bel2 B4.out HB.out)
        go_wp2_with (go_at_call 13; refine (works_ok _ (HE.out.below B5.out)).mono ?_; rintro e w5 ⟨rfl, hb5⟩; have B6 := Lib.hid (bel2 B5.out hb5); clear hb5)
        go_ret
        exact ⟨rfl, B6.out⟩
  · have SH := Lib.hid (short_no (some ⟨v.heap.size, 0, none⟩) 1 1 1 _ _ (Nat.le_refl _) (by decide) (by decide) (HS.out _ _ n1) (fun h => ht (h.2 0 (by decide))))
    have B1 := Lib.hid (bel2 B0.out b1)
    clear b1 n1 N0 B0 HS
    go_enter Tryz.func4, Tryz.ntmps4
    go_wp2_with fail
    refine SH.out.mono ?_
    rintro e w2 ⟨rfl, b2⟩
    have B2 := Lib.hid (bel2 B1.out b2)
    clear b2 SH B1 c0 c1 c2 c3 c4 c5 c6 c7 c8
    go_wp2_with (go_at_call 13; refine (works_ok _ (HE.out.below B2.out)).mono ?_; rintro e w5 ⟨rfl, hb5⟩; have B6 := Lib.hid (bel2 B2.out hb5); clear hb5)
    go_ret
    exact ⟨rfl, B6.out⟩
end Go.Proofs.YtpinmiplefidpaaGreatDoor
