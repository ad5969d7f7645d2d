/- The walk of OuterPlays. -/
import Derived.Test.YtpinmiplefidpaaGreatDoorQi
import Derived.Test.YtpinmiplefidpaaGreatDoorOv
import Derived.Test.YtpinmiplefidpaaGreatDoorOen
import Derived.Deep.Cut
import Derived.Deep.CutRange
import Derived.Deep.CutBlock
import Derived.Deep.RegionHeld3
namespace Go.Proofs.YtpinmiplefidpaaGreatDoor
open Go.RowKit

/-- The worlds that both New give. -/
def nE0 (n : Int) : Int := if n = 0 then 2 else 0
theorem p_new (n : Int) (w0 w : World) (n0 : 0 ≤ n) (n1 : n ≤ 4294967295) (hb : Below w0.heap.size w0 w) : Calls Tryz.prog 14 #[.int .u32 n] w fun e w' => ∃ p : Option Addr, e = .returned (.tuple #[.pointer p, .int .i64 (nE0 n)]) ∧ (p.isNone = decide (n = 0)) ∧ Hid (Calls Tryz.prog 15 #[.int .u32 n] w' fun e w'' => ∃ q : Option Addr, e = .returned (.tuple #[.pointer q, .int .i64 (nE0 n)]) ∧ (q.isNone = decide (n = 0)) ∧ Hid (∃ s, PM w0 w'' (.pointer p) (.pointer q) s s) ∧ Hid (Below w'.heap.size w' w'')) ∧ Hid (Below w.heap.size w w') := by
  by_cases h : n = 0
  · subst h
    refine (wnew_bad 0 w rfl).mono ?_
    rintro e w' ⟨rfl, rfl⟩
    refine ⟨none, rfl, rfl, ?_, Below.refl _ _⟩
    refine (rnew_bad w).mono ?_
    rintro e w' ⟨rfl, rfl⟩
    exact ⟨none, rfl, rfl, ⟨none, PM.none hb⟩, Below.refl _ _⟩
  · have hn : nE0 n = 0 := if_neg h
    obtain ⟨m, rfl⟩ : ∃ m : Nat, n = m := ⟨n.toNat, by omega⟩
    have hd : decide ((m : Int) = 0) = false := decide_eq_false h
    rw [hn, hd]
    refine (wnew_ok m w (by omega) (by omega)).mono ?_
    rintro e w' ⟨A, rfl, k⟩
    refine ⟨some ⟨A.b, 0, none⟩, rfl, rfl, ?_, k.bel⟩
    refine (rwnew_ok m w' (by omega) (by omega)).mono ?_
    rintro e w'' ⟨x, rfl, k2⟩
    exact ⟨some ⟨x.r, 0, none⟩, rfl, rfl, ⟨some (wfresh m), PM.new (WSt.after hb k) k2⟩, k2.bel⟩
theorem rlvalid_nil (w : World) : Calls Tryz.prog 100 #[.pointer none] w fun e w' => e = .returned (.bool false) ∧ w = w' := by
  go_enter Tryz.func100, Tryz.ntmps100
  go_wp2
  go_ret
  exact ⟨rfl, rfl⟩
theorem rlall_nil (w : World) : Calls Tryz.prog 41 #[.pointer none] w fun e w' => e = .returned (.slice none 0 0) ∧ w = w' := by
  go_enter Tryz.func41, Tryz.ntmps41
  go_wp2_with fail
  refine (rlvalid_nil _).mono ?_
  rintro e w' ⟨rfl, rfl⟩
  go_wp2
  go_ret
  exact ⟨rfl, rfl⟩
set_option maxRecDepth 100000 in
set_option maxHeartbeats 16000000 in
theorem pla_main (n : Int) (a : Option Addr) (len cap : Nat) (S : Nat → Sp) (K I G : Int) (w : World) (n0 : 0 ≤ n) (n1 : n ≤ 4294967295) (hl : len ≤ cap) (hm : cap ≤ 9223372036854775807) (hu : Sps w a len S) (hr : RgO K I G) (he : OEnv w) (hs : Short len S 120) :
    Calls Tryz.prog 3 #[.int .u32 n, .slice a len cap, .agg #[.int .i64 K, .int .i64 I, .int .u32 G]] w fun e w' => e = .returned (.bool true) ∧ Below w.heap.size w w' := by
  have HB0 := bel_new w (.cells #[.int .i64 K, .int .i64 I, .int .u32 G] 25)
  have C0 := Lib.hid (Bk.new w 25 #[.int .i64 K, .int .i64 I, .int .u32 G])
  have SH := Lib.hid (short_yes a len cap 120 S _ hl hm (by decide) (hu.below HB0) hs)
  have HE := Lib.hid he
  have HU := Lib.hid hu
  have HS := Lib.hid hs.2
  have HR := Lib.hid hr
  have B0 := Lib.hid HB0
  have h120 := hs.1
  have NW := Lib.hid (fun w' hb => p_new n w w' n0 n1 hb)
  clear he hu hr hs HB0
  generalize nE0 n = E at NW
  generalize decide (n = 0) = bn at NW
  go_enter Tryz.func3, Tryz.ntmps3
  go_wp2_with fail
  generalize w.alloc (.cells #[.int .i64 K, .int .i64 I, .int .u32 G] 25) = w1 at *
  refine SH.out.mono ?_
  rintro e w2 ⟨rfl, b1⟩
  have B1 := Lib.hid (bel2 B0.out b1)
  have C1 := Lib.hid (C0.out.below b1)
  clear b1 SH B0 C0
  go_wp2_with fail
  refine (NW.out _ B1.out).mono ?_
  rintro e w3 ⟨p, rfl, hp, hD, hb⟩
  have C2 := Lib.hid (C1.out.below hb.out)
  have HD := Lib.hid hD.out
  clear hb hD C1 B1 NW
  go_wp2_with fail
  refine HD.out.mono ?_
  rintro e w4 ⟨q, rfl, hq, hM, hb⟩
  have C3 := Lib.hid (C2.out.below hb.out)
  have M3 := Lib.hid hM.out
  clear hb hM C2 HD
  go_wp2_with fail
  go_loopw [7, 9, 11] (fun pv qv v wr => ∃ j : Nat, j ≤ len ∧ v = .int .i64 j ∧ Hid (Bk wr w.heap.size 25 #[.int .i64 K, .int .i64 I, .int .u32 G]) ∧ Hid (∃ s, PM w wr pv qv s s)) (fun _ _ v _ => len - (intOf v).toNat)
  case atStart => exact ⟨0, Nat.zero_le _, rfl, C3.out, M3.out⟩
  case round =>
    clear C3 M3 hp hq
    obtain ⟨j, hj, rfl, C4, HM⟩ := hrel
    obtain ⟨s, hM⟩ := HM.out
    have M4 := Lib.hid hM
    clear HM hM
    by_cases hlt : j < len
    · obtain ⟨b, off, rfl, hb, hc⟩ := (HU.out.below M4.out.bel).at_ (by omega)
      obtain ⟨c0, c1, c2, c3, c4, c5, c6, c7, c8⟩ := hc j hlt
      have hok := HU.out.bd j hlt
      have ht := HS.out j hlt
      clear hc
      generalize S j = m at *
      obtain ⟨d, k, ar, ⟨oK, oI, oG⟩, y, x, t⟩ := m
      dsimp only at c0 c1 c2 c3 c4 c5 c6 c7 c8 ht
      have OK := Lib.hid hok
      have HT : Hid (t.size ≤ 140737488351232) := Nat.le_trans ht (by decide)
      clear hok ht
      have X5 := Lib.hid (Bk.new wr 36 #[.int .i64 d, .int .i64 k, .int .i64 ar, .int .i64 oK, .int .i64 oI, .int .u32 oG, .int .i64 y, .int .i64 x, .string t])
      have bx := bel_new wr (.cells #[.int .i64 d, .int .i64 k, .int .i64 ar, .int .i64 oK, .int .i64 oI, .int .u32 oG, .int .i64 y, .int .i64 x, .string t] 36)
      have M5 := Lib.hid (M4.out.quiet bx)
      have C5 := Lib.hid (C4.out.below bx)
      clear bx C4 M4
      go_upto_block 2 with fail
      generalize wr.alloc (.cells #[.int .i64 d, .int .i64 k, .int .i64 ar, .int .i64 oK, .int .i64 oI, .int .u32 oG, .int .i64 y, .int .i64 x, .string t] 36) = w5 at *
      generalize wr.heap.size = X at *
      clear c0 c1 c2 c3 c4 c5 c6 c7 c8
      go_cut [7, 9, 13, 14, 15, 16, 17, 18, 19, 20] from 66 to 165 (fun pv qv _ _ _ _ _ _ _ _ wx => Hid (∃ s, PM w wx pv qv s s) ∧ Hid (Bk wx w.heap.size 25 #[.int .i64 K, .int .i64 I, .int .u32 G]) ∧ Hid (Bk wx X 36 #[.int .i64 d, .int .i64 k, .int .i64 ar, .int .i64 oK, .int .i64 oI, .int .u32 oG, .int .i64 y, .int .i64 x, .string t]))
      case first =>
        as_aux_lemma =>
          by_cases d0 : d = 0
          · subst d0
            obtain ⟨x0, x1, x2, x3, x4, x5, x6, x7, x8⟩ := nine X5.out
            have PA := Lib.hid (p_acq k ar OK.out.a M5.out)
            have DA := Lib.hid (fun (v : World) (h : PM w v u7 u9 (s.map fun W => W.acq k ar) s) => d_acq k ar OK.out.a h)
            generalize oaK s k ar = K1 at PA DA
            generalize oaI s k ar = I1 at PA DA
            generalize oaG s k ar = G1 at PA DA
            generalize oaE s k ar = E1 at PA DA
            go_wp2_with fail
            refine PA.out.mono ?_
            rintro e w6 ⟨rfl, h1, h2⟩
            have b6 := bel_new w6 (.cells #[.int .i64 K1, .int .i64 I1, .int .u32 G1] 25)
            have M6 := Lib.hid (h1.out.quiet b6)
            have C6 := Lib.hid ((h2.out _ _ _ (.inl rfl) C5.out).below b6)
            have X6 := Lib.hid ((h2.out _ _ _ (.inr rfl) X5.out).below b6)
            have A6 := Lib.hid (Bk.new w6 25 #[.int .i64 K1, .int .i64 I1, .int .u32 G1])
            clear h1 h2 b6 PA M5 C5 X5 x0 x1 x2 x3 x4 x5 x6 x7 x8
            obtain ⟨x0, x1, x2, x3, x4, x5, x6, x7, x8⟩ := nine X6.out
            go_wp2_with fail
            generalize w6.alloc (.cells #[.int .i64 K1, .int .i64 I1, .int .u32 G1] 25) = w7 at *
            generalize w6.heap.size = ob at *
            refine (DA.out _ M6.out).mono ?_
            rintro e w8 ⟨rfl, h1, h2⟩
            have b8 := bel_new w8 (.cells #[.int .i64 K1, .int .i64 I1, .int .u32 G1] 25)
            have M8 := Lib.hid (h1.out.quiet b8)
            have C8 := Lib.hid ((h2.out _ _ _ (.inl rfl) C6.out).below b8)
            have X8 := Lib.hid ((h2.out _ _ _ (.inr rfl) X6.out).below b8)
            have A8 := Lib.hid ((h2.out _ _ _ (.inl rfl) A6.out).below b8)
            have A9 := Lib.hid (Bk.new w8 25 #[.int .i64 K1, .int .i64 I1, .int .u32 G1])
            clear h1 h2 b8 DA M6 C6 X6 A6 x0 x1 x2 x3 x4 x5 x6 x7 x8
            obtain ⟨a0, a1, a2⟩ := LS.cells3 A8.out
            obtain ⟨b0, b1, b2⟩ := LS.cells3 A9.out
            go_wp2
            go_meet
            exact ⟨⟨_, M8.out⟩, C8.out, X8.out⟩
          by_cases d1 : d = 1
          · subst d1
            obtain ⟨x0, x1, x2, x3, x4, x5, x6, x7, x8⟩ := nine X5.out
            have PA := Lib.hid (p_rel oK oI oG y HE.out OK.out.o OK.out.y M5.out)
            have DA := Lib.hid (fun (v : World) (h : PM w v u7 u9 (s.map fun W => W.rel oK oI oG y) s) => d_rel oK oI oG y OK.out.o OK.out.y h)
            generalize orA s oK oI oG y = K1 at PA DA
            generalize orE s oK oI oG y = E1 at PA DA
            go_wp2_with fail
            refine PA.out.mono ?_
            rintro e w6 ⟨rfl, h1, h2⟩
            have M6 := Lib.hid h1.out
            have C6 := Lib.hid (h2.out _ _ _ (.inl rfl) C5.out)
            have X6 := Lib.hid (h2.out _ _ _ (.inr rfl) X5.out)
            clear h1 h2 PA M5 C5 X5 x0 x1 x2 x3 x4 x5 x6 x7 x8
            obtain ⟨x0, x1, x2, x3, x4, x5, x6, x7, x8⟩ := nine X6.out
            go_wp2_with fail
            refine (DA.out _ M6.out).mono ?_
            rintro e w8 ⟨rfl, h1, h2⟩
            have M8 := Lib.hid h1.out
            have C8 := Lib.hid (h2.out _ _ _ (.inl rfl) C6.out)
            have X8 := Lib.hid (h2.out _ _ _ (.inr rfl) X6.out)
            clear h1 h2 DA M6 C6 X6 x0 x1 x2 x3 x4 x5 x6 x7 x8
            go_wp2
            go_meet
            exact ⟨⟨_, M8.out⟩, C8.out, X8.out⟩
          by_cases d2 : d = 2
          · subst d2
            have D0 := Lib.hid (bel_drew (Below.refl w5.heap.size w5))
            have X6 := Lib.hid (X5.out.below D0.out)
            obtain ⟨x0, x1, x2, x3, x4, x5, x6, x7, x8⟩ := nine X6.out
            have PA := Lib.hid (p_ren oK oI oG x OK.out.o (M5.out.quiet D0.out))
            have DA := Lib.hid (fun (v : World) (h : PM w v u7 u9 (s.map fun W => W.ren oK oI oG x) s) => d_ren oK oI oG x OK.out.o h)
            generalize onE s oK oI oG x = E1 at PA DA
            have FX : Hid (∀ V, Bk V X 36 #[.int .i64 2, .int .i64 k, .int .i64 ar, .int .i64 oK, .int .i64 oI, .int .u32 oG, .int .i64 y, .int .i64 x, .string t] → V.cell? ⟨X, 3, none⟩ = some (.int .i64 oK) ∧ V.cell? ⟨X, 4, none⟩ = some (.int .i64 oI) ∧ V.cell? ⟨X, 5, none⟩ = some (.int .u32 oG) ∧ V.cell? ⟨X, 7, none⟩ = some (.int .i64 x)) := fun V h => by
              obtain ⟨x0, x1, x2, x3, x4, x5, x6, x7, x8⟩ := nine h
              exact ⟨x3, x4, x5, x7⟩
            go_upto_region 23 with fail
            go_region_held3 (fun V => V.cell? ⟨X, 3, none⟩ = some (.int .i64 oK) ∧ V.cell? ⟨X, 4, none⟩ = some (.int .i64 oI) ∧ V.cell? ⟨X, 5, none⟩ = some (.int .u32 oG) ∧ V.cell? ⟨X, 7, none⟩ = some (.int .i64 x)) (first | (with_reducible exact hz2) | (with_reducible exact hz1) | (with_reducible exact ⟨x3, x4, x5, x7⟩)) (first
              | (go_at_call 20; refine PA.out.mono ?_; rintro e w6 ⟨rfl, h1, h2⟩; have M6 := Lib.hid h1.out; have C6 := Lib.hid (h2.out _ _ _ (.inl rfl) (C5.out.below D0.out)); have X7 := Lib.hid (h2.out _ _ _ (.inr rfl) X6.out); have hz1 := FX.out _ X7.out; clear h1 h2)
              | (go_at_call 21; refine (DA.out _ M6.out).mono ?_; rintro e w8 ⟨rfl, h1, h2⟩; have M8 := Lib.hid h1.out; have C8 := Lib.hid (h2.out _ _ _ (.inl rfl) C6.out); have X8 := Lib.hid (h2.out _ _ _ (.inr rfl) X7.out); have hz2 := FX.out _ X8.out; clear h1 h2))
            all_goals
              go_wp2
              go_meet
              exact ⟨⟨_, M8.out⟩, C8.out, X8.out⟩
          by_cases d3 : d = 3
          · subst d3
            have D0 := Lib.hid (bel_drew (Below.refl w5.heap.size w5))
            have X6 := Lib.hid (X5.out.below D0.out)
            obtain ⟨x0, x1, x2, x3, x4, x5, x6, x7, x8⟩ := nine X6.out
            have PA := Lib.hid (p_tick x OK.out.x (M5.out.quiet D0.out))
            have DA := Lib.hid (fun (v : World) (h : PM w v u7 u9 (s.map fun W => W.tick x) s) => d_tick x OK.out.x h)
            generalize otE s x = E1 at PA DA
            have FX : Hid (∀ V, Bk V X 36 #[.int .i64 3, .int .i64 k, .int .i64 ar, .int .i64 oK, .int .i64 oI, .int .u32 oG, .int .i64 y, .int .i64 x, .string t] → V.cell? ⟨X, 7, none⟩ = some (.int .i64 x)) := fun V h => by
              obtain ⟨x0, x1, x2, x3, x4, x5, x6, x7, x8⟩ := nine h
              exact x7
            go_upto_region 26 with fail
            go_region_held3 (fun V => V.cell? ⟨X, 7, none⟩ = some (.int .i64 x)) (first | (with_reducible exact hz2) | (with_reducible exact hz1) | (with_reducible exact x7)) (first
              | (go_at_call 22; refine PA.out.mono ?_; rintro e w6 ⟨rfl, h1, h2⟩; have M6 := Lib.hid h1.out; have C6 := Lib.hid (h2.out _ _ _ (.inl rfl) (C5.out.below D0.out)); have X7 := Lib.hid (h2.out _ _ _ (.inr rfl) X6.out); have hz1 := FX.out _ X7.out; clear h1 h2)
              | (go_at_call 23; refine (DA.out _ M6.out).mono ?_; rintro e w8 ⟨rfl, h1, h2⟩; have M8 := Lib.hid h1.out; have C8 := Lib.hid (h2.out _ _ _ (.inl rfl) C6.out); have X8 := Lib.hid (h2.out _ _ _ (.inr rfl) X7.out); have hz2 := FX.out _ X8.out; clear h1 h2))
            all_goals
              go_wp2
              go_meet
              exact ⟨⟨_, M8.out⟩, C8.out, X8.out⟩
          by_cases d4 : d = 4
          · subst d4
            have D0 := Lib.hid (bel_drew (Below.refl w5.heap.size w5))
            have X6 := Lib.hid (X5.out.below D0.out)
            obtain ⟨x0, x1, x2, x3, x4, x5, x6, x7, x8⟩ := nine X6.out
            have PA := Lib.hid (p_ans t HE.out HT.out (M5.out.quiet D0.out))
            have DA := Lib.hid (fun (v : World) (h : PM w v u7 u9 (s.map fun W => W.said t.data.toList) s) => d_ans t HT.out h)
            generalize osE s t.data.toList = E1 at PA DA
            have FX : Hid (∀ V, Bk V X 36 #[.int .i64 4, .int .i64 k, .int .i64 ar, .int .i64 oK, .int .i64 oI, .int .u32 oG, .int .i64 y, .int .i64 x, .string t] → V.cell? ⟨X, 8, none⟩ = some (.string t)) := fun V h => by
              obtain ⟨x0, x1, x2, x3, x4, x5, x6, x7, x8⟩ := nine h
              exact x8
            go_upto_region 29 with fail
            go_region_held3 (fun V => V.cell? ⟨X, 8, none⟩ = some (.string t)) (first | (with_reducible exact hz2) | (with_reducible exact hz1) | (with_reducible exact x8)) (first
              | (go_at_call 24; refine PA.out.mono ?_; rintro e w6 ⟨rfl, h1, h2⟩; have M6 := Lib.hid h1.out; have C6 := Lib.hid (h2.out _ _ _ (.inl rfl) (C5.out.below D0.out)); have X7 := Lib.hid (h2.out _ _ _ (.inr rfl) X6.out); have hz1 := FX.out _ X7.out; clear h1 h2)
              | (go_at_call 25; refine (DA.out _ M6.out).mono ?_; rintro e w8 ⟨rfl, h1, h2⟩; have M8 := Lib.hid h1.out; have C8 := Lib.hid (h2.out _ _ _ (.inl rfl) C6.out); have X8 := Lib.hid (h2.out _ _ _ (.inr rfl) X7.out); have hz2 := FX.out _ X8.out; clear h1 h2))
            all_goals
              go_wp2
              go_meet
              exact ⟨⟨_, M8.out⟩, C8.out, X8.out⟩
          by_cases d5 : d = 5
          · subst d5
            obtain ⟨x0, x1, x2, x3, x4, x5, x6, x7, x8⟩ := nine X5.out
            have PA := Lib.hid (p_copy M5.out)
            go_wp2_with fail
            refine PA.out.mono ?_
            rintro e w6 ⟨pv', rfl, h1, h2⟩
            have M6 := Lib.hid h1.out
            have C6 := Lib.hid (C5.out.below h2.out)
            have X6 := Lib.hid (X5.out.below h2.out)
            clear h1 h2 PA M5 C5 X5 x0 x1 x2 x3 x4 x5 x6 x7 x8
            go_wp2_with fail
            refine (d_copy M6.out).mono ?_
            rintro e w8 ⟨qv', rfl, h1, h2⟩
            have M8 := Lib.hid h1.out
            have C8 := Lib.hid (C6.out.below h2.out)
            have X8 := Lib.hid (X6.out.below h2.out)
            clear h1 h2 M6 C6 X6
            go_wp2
            go_meet
            exact ⟨⟨_, M8.out⟩, C8.out, X8.out⟩
          have z0 : (d == 0) = false := beq_eq_false_iff_ne.2 d0
          have z1 : (d == 1) = false := beq_eq_false_iff_ne.2 d1
          have z2 : (d == 2) = false := beq_eq_false_iff_ne.2 d2
          have z3 : (d == 3) = false := beq_eq_false_iff_ne.2 d3
          have z4 : (d == 4) = false := beq_eq_false_iff_ne.2 d4
          have z5 : (d == 5) = false := beq_eq_false_iff_ne.2 d5
          clear d0 d1 d2 d3 d4 d5
          go_wp2
          go_meet
          exact ⟨⟨_, M5.out⟩, C5.out, X5.out⟩
      case rest =>
        as_aux_lemma =>
          obtain ⟨hM, hC, hX⟩ := hcut
          obtain ⟨s', hM'⟩ := hM.out
          have M6 := Lib.hid hM'
          have FX : Hid (∀ V, Below _ _ V → V.cell? ⟨w.heap.size, 0, none⟩ = some (.int .i64 K) ∧ V.cell? ⟨w.heap.size, 1, none⟩ = some (.int .i64 I) ∧ V.cell? ⟨w.heap.size, 2, none⟩ = some (.int .u32 G) ∧ V.cell? ⟨X, 3, none⟩ = some (.int .i64 oK) ∧ V.cell? ⟨X, 4, none⟩ = some (.int .i64 oI) ∧ V.cell? ⟨X, 5, none⟩ = some (.int .u32 oG)) := fun V hV => by
            obtain ⟨_, _, _, x3, x4, x5, _, _, _⟩ := nine (hX.out.below hV)
            obtain ⟨a0, a1, a2⟩ := LS.cells3 (hC.out.below hV)
            exact ⟨a0, a1, a2, x3, x4, x5⟩
          have C6 := hC
          clear hM hM' hX hC M5 C5 X5
          have T1 := Lib.hid (fun v h => p_til oK oI oG OK.out.o (M6.out.quiet (w' := v) h))
          have T2 := Lib.hid (fun v h => d_til oK oI oG OK.out.o (M6.out.quiet (w' := v) h))
          have T3 := Lib.hid (fun v h => p_til K I G HR.out (M6.out.quiet (w' := v) h))
          have T4 := Lib.hid (fun v h => d_til K I G HR.out (M6.out.quiet (w' := v) h))
          have HA1 := Lib.hid (fun v h => p_has K I G (M6.out.quiet (w' := v) h))
          have HA2 := Lib.hid (fun v h => d_has K I G (M6.out.quiet (w' := v) h))
          have HB1 := Lib.hid (fun v h => p_has oK oI oG (M6.out.quiet (w' := v) h))
          have HB2 := Lib.hid (fun v h => d_has oK oI oG (M6.out.quiet (w' := v) h))
          have NO1 := Lib.hid (fun v h => p_now (M6.out.quiet (w' := v) h))
          have NO2 := Lib.hid (fun v h => d_now (M6.out.quiet (w' := v) h))
          have AL1 := Lib.hid (fun v h => p_all (M6.out.quiet (w' := v) h))
          have AL2 := Lib.hid (fun v h => d_all (M6.out.quiet (w' := v) h))
          generalize otl s' oK oI oG = N1 at T1 T2
          generalize ouE s' oK oI oG = E1 at T1 T2
          generalize otl s' K I G = N2 at T3 T4
          generalize ouE s' K I G = E2 at T3 T4
          generalize ohs s' K I G = bA at HA1 HA2
          generalize ohs s' oK oI oG = bB at HB1 HB2
          generalize ont s' = tN at NO1 NO2
          generalize oal s' = LL at AL1 AL2
          have hbA : (bA != bA) = false := bne_self_eq_false bA
          have hbB : (bB != bB) = false := bne_self_eq_false bB
          obtain ⟨a0, a1, a2, x3, x4, x5⟩ := FX.out _ (Below.refl _ _)
          go_wp2_with fail
          refine (T1.out _ (Below.refl _ _)).mono ?_
          rintro e w7 ⟨rfl, hb⟩
          have B7 := Lib.hid hb.out
          clear hb a0 a1 a2 x3 x4 x5
          obtain ⟨a0, a1, a2, x3, x4, x5⟩ := FX.out _ B7.out
          go_wp2_with fail
          refine (T2.out _ B7.out).mono ?_
          rintro e w8 ⟨rfl, hb⟩
          have B8 := Lib.hid (bel2 B7.out hb.out)
          clear hb a0 a1 a2 x3 x4 x5
          obtain ⟨a0, a1, a2, x3, x4, x5⟩ := FX.out _ B8.out
          go_wp2_with fail
          refine (T3.out _ B8.out).mono ?_
          rintro e w9 ⟨rfl, hb⟩
          have B9 := Lib.hid (bel2 B8.out hb.out)
          clear hb a0 a1 a2 x3 x4 x5
          obtain ⟨a0, a1, a2, x3, x4, x5⟩ := FX.out _ B9.out
          go_wp2_with fail
          refine (T4.out _ B9.out).mono ?_
          rintro e w10 ⟨rfl, hb⟩
          have B10 := Lib.hid (bel2 B9.out hb.out)
          clear hb a0 a1 a2 x3 x4 x5
          obtain ⟨a0, a1, a2, x3, x4, x5⟩ := FX.out _ B10.out
          clear T1 T2 T3 T4
          have D11 := Lib.hid (bel_drew B10.out)
          clear a0 a1 a2 x3 x4 x5
          obtain ⟨a0, a1, a2, x3, x4, x5⟩ := FX.out _ D11.out
          go_upto_region 38 with fail
          go_region_held3 (fun V => V.cell? ⟨w.heap.size, 0, none⟩ = some (.int .i64 K) ∧ V.cell? ⟨w.heap.size, 1, none⟩ = some (.int .i64 I) ∧ V.cell? ⟨w.heap.size, 2, none⟩ = some (.int .u32 G) ∧ V.cell? ⟨X, 3, none⟩ = some (.int .i64 oK) ∧ V.cell? ⟨X, 4, none⟩ = some (.int .i64 oI) ∧ V.cell? ⟨X, 5, none⟩ = some (.int .u32 oG)) (first | (with_reducible exact hz20) | (with_reducible exact hz19) | (with_reducible exact hz18) | (with_reducible exact hz17) | (with_reducible exact hz16) | (with_reducible exact hz15) | (with_reducible exact hz14) | (with_reducible exact hz13) | (with_reducible exact hz12) | (with_reducible exact ⟨a0, a1, a2, x3, x4, x5⟩)) (first
              | (go_at_call 30; (with_reducible refine (HA1.out _ D11.out).mono ?_); rintro e w12 ⟨rfl, hb⟩; have B12 := Lib.hid (bel2 D11.out hb.out); have hz12 := FX.out _ B12.out; clear hb)
              | (go_at_call 31; (with_reducible refine (HA2.out _ B12.out).mono ?_); rintro e w13 ⟨rfl, hb⟩; have B13 := Lib.hid (bel2 B12.out hb.out); have hz13 := FX.out _ B13.out; clear hb)
              | (go_at_call 30; (with_reducible refine (HB1.out _ B13.out).mono ?_); rintro e w14 ⟨rfl, hb⟩; have B14 := Lib.hid (bel2 B13.out hb.out); have hz14 := FX.out _ B14.out; clear hb)
              | (go_at_call 31; (with_reducible refine (HB2.out _ B14.out).mono ?_); rintro e w15 ⟨rfl, hb⟩; have B15 := Lib.hid (bel2 B14.out hb.out); have hz15 := FX.out _ B15.out; clear hb)
              | (go_at_call 32; (with_reducible refine (NO1.out _ B15.out).mono ?_); rintro e w16 ⟨rfl, hb⟩; have B16 := Lib.hid (bel2 B15.out hb.out); have hz16 := FX.out _ B16.out; clear hb)
              | (go_at_call 33; (with_reducible refine (NO2.out _ B16.out).mono ?_); rintro e w17 ⟨rfl, hb⟩; have B17 := Lib.hid (bel2 B16.out hb.out); have hz17 := FX.out _ B17.out; clear hb)
              | (go_at_call 35; (with_reducible refine (AL1.out _ B17.out).mono ?_); rintro e w18 ⟨pa, ca, rfl, hr1, hb⟩; have B18 := Lib.hid (bel2 B17.out hb.out); have R18 := Lib.hid hr1.out; have hz18 := FX.out _ B18.out; clear hb hr1)
              | (go_at_call 36; (with_reducible refine (AL2.out _ B18.out).mono ?_); rintro e w19 ⟨qa, da, rfl, hr1, hb⟩; have B19 := Lib.hid (bel2 B18.out hb.out); have R19 := Lib.hid (And.intro (R18.out.below hb.out) hr1.out); have hz19 := FX.out _ B19.out; clear hb hr1)
              | (go_at_call 34; (with_reducible refine (routers_ok _ _ _ _ _ _ _ R19.out.1 R19.out.2).mono ?_); rintro e w20 ⟨rfl, hb⟩; have B20 := Lib.hid (bel2 B19.out hb); have hz20 := FX.out _ B20.out; clear hb))
          all_goals
            go_wp2
            go_roundw
            case rel => exact ⟨j + 1, by omega, by go_num, C6.out.below B20.out, _, M6.out.quiet B20.out⟩
            case measure => simp [intOf]; omega
    · as_aux_lemma =>
        obtain rfl : j = len := by omega
        clear C4
        have BE := Lib.hid M4.out.bel
        rcases M4.out.cur with ⟨e1, e2, rfl, rfl⟩ | ⟨A, z, W, U, e1, e2, rfl, rfl, f, g, l1, l2, l3⟩
        · clear M4 e1 e2
          go_wp2_with fail
          refine (wledger_no none _ (.inl rfl)).mono ?_
          rintro e w' ⟨rfl, rfl⟩
          go_wp2_with fail
          refine (rledger_nil _).mono ?_
          rintro e w' ⟨rfl, rfl⟩
          go_wp2_with fail
          refine (LG.all_no none _ (.inl rfl)).mono ?_
          rintro e w' ⟨rfl, rfl⟩
          go_wp2_with fail
          refine (rlall_nil _).mono ?_
          rintro e w' ⟨rfl, rfl⟩
          go_wp2_with fail
          refine (rattempts_ok none none 0 0 0 [] _ (LG.RdA.nil _) (LG.RdA.nil _)).mono ?_
          rintro e w6 ⟨rfl, hb⟩
          have B6 := Lib.hid (bel2 BE.out hb)
          clear hb
          go_wp2_with fail
          refine (works_ok _ (HE.out.below B6.out)).mono ?_
          rintro e w7 ⟨rfl, hb⟩
          have B7 := Lib.hid (bel2 B6.out hb)
          clear hb
          go_wp2
          go_ret
          exact ⟨rfl, B7.out⟩
        · rw [e1] at e2
          injection e2 with e2
          subst e2
          have LD := Lib.hid (ledger_s (w0 := w) W.B ⟨f, M4.out.bel, l1⟩ rfl)
          have RL := Lib.hid (fun v (h : Below wr.heap.size wr v) => rledger_ok z W v (g.below h).1)
          generalize W.B = L at LD RL
          clear M4 e1 f g l1 l2 l3
          unfold ptr at *
          go_wp2_with fail
          refine LD.out.mono ?_
          rintro e w5 ⟨lb, bk, rfl, h1, h2, hb⟩
          have L5 := Lib.hid h1.out
          have B5 := Lib.hid hb.out
          clear h1 h2 hb LD
          go_wp2_with fail
          refine (RL.out _ B5.out).mono ?_
          rintro e w6 ⟨rb, rv, rfl, h1, hb⟩
          have R6 := Lib.hid h1.out
          have L6 := Lib.hid (L5.out.below hb.out).1
          have B6 := Lib.hid (bel2 B5.out hb.out)
          clear h1 hb RL L5 B5
          go_wp2_with fail
          refine (LG.all_ok _ _ _ _ _ L6.out).mono ?_
          rintro e w7 ⟨v7, rfl, ho, hb⟩
          have A7 := Lib.hid (LG.RdA.of_own ho)
          have R7 := Lib.hid (R6.out.below hb)
          have B7 := Lib.hid (bel2 B6.out hb)
          clear ho hb R6 L6 B6
          go_wp2_with fail
          refine (LG.rall_ok _ _ _ _ _ R7.out).mono ?_
          rintro e w8 ⟨v8, rfl, ho, hb⟩
          have hA8 := A7.out.below hb
          have hD8 := LG.RdA.of_own ho
          have B8 := Lib.hid (bel2 B7.out hb)
          obtain ⟨p1, q1, rfl⟩ := LG.rd_slice hA8
          obtain ⟨p2, q2, rfl⟩ := LG.rd_slice hD8
          have A8 := Lib.hid hA8
          have D8 := Lib.hid hD8
          clear ho hb A7 R7 B7 hA8 hD8
          go_wp2_with fail
          refine (rattempts_ok _ _ _ _ _ _ _ A8.out D8.out).mono ?_
          rintro e w9 ⟨rfl, hb⟩
          have B9 := Lib.hid (bel2 BE.out (bel2 B8.out hb))
          clear hb A8 D8 B8
          go_wp2_with fail
          refine (works_ok _ (HE.out.below B9.out)).mono ?_
          rintro e w10 ⟨rfl, hb⟩
          have B10 := Lib.hid (bel2 B9.out hb)
          clear hb
          go_wp2
          go_ret
          exact ⟨rfl, B10.out⟩
set_option maxRecDepth 100000 in
set_option maxHeartbeats 2000000 in
theorem oPla_walk (n : Int) (a : Option Addr) (len cap : Nat) (S : Nat → Sp) (K I G : Int) (w : World) (n0 : 0 ≤ n) (n1 : n ≤ 4294967295) (hl : len ≤ cap) (hm : cap ≤ 9223372036854775807) (hu : Sps w a len S) (hr : RgO K I G) (he : OEnv w) :
    Calls Tryz.prog 3 #[.int .u32 n, .slice a len cap, .agg #[.int .i64 K, .int .i64 I, .int .u32 G]] w fun e w' => e = .returned (.bool true) ∧ Below w.heap.size w w' := by
  by_cases hs : Short len S 120
  · exact pla_main n a len cap S K I G w n0 n1 hl hm hu hr he hs
  · have HB0 := bel_new w (.cells #[.int .i64 K, .int .i64 I, .int .u32 G] 25)
    have SH := Lib.hid (short_no a len cap 120 S _ hl hm (by decide) (hu.below HB0) hs)
    have HE := Lib.hid he
    have B0 := Lib.hid HB0
    clear he hu hs HB0 hr
    go_enter Tryz.func3, Tryz.ntmps3
    go_wp2_with fail
    refine SH.out.mono ?_
    rintro e w1 ⟨rfl, b1⟩
    have B2 := Lib.hid (bel2 B0.out b1)
    clear b1 SH
    go_wp2_with fail
    refine (works_ok _ (HE.out.below B2.out)).mono ?_
    rintro e v ⟨rfl, hb⟩
    have B7 := Lib.hid (bel2 B2.out hb)
    clear hb
    go_wp2
    go_ret
    exact ⟨rfl, B7.out⟩
end Go.Proofs.YtpinmiplefidpaaGreatDoor
