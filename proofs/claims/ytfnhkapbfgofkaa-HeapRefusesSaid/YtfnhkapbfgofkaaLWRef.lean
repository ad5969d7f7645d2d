/- The walk of HeapRefuses: it returns true for every input. -/
import Derived.Test.YtfnhkapbfgofkaaWw
import Derived.Test.YtfnhkapbfgofkaaWac
import Derived.Test.YtfnhkapbfgofkaaWbb
namespace Go.Proofs.Ytfnhkapbfgofkaa
open Go.RowKit

set_option maxHeartbeats 16000000 in
set_option maxRecDepth 100000 in
theorem wRef_walk (x0 : Int) (a : Option Addr) (len cap : Nat) (s : Nat → Trn) (n0 : Int) (w : World) (h00 : 0 ≤ x0) (h01 : x0 ≤ 255) (_ : len ≤ cap) (_ : cap ≤ 9223372036854775807) (hu : Trns w a len s) (h02 : 0 ≤ n0) (h03 : n0 ≤ 65535) :
    Calls Try.prog 9 #[.int .u8 x0, .slice a len cap, .int .u16 n0] w fun e w' => e = .returned (.bool true) ∧ Below w.heap.size w w' := by
  obtain ⟨x, rfl⟩ : ∃ x : Nat, x0 = x := ⟨x0.toNat, by omega⟩
  obtain ⟨nn, rfl⟩ : ∃ nn : Nat, n0 = nn := ⟨n0.toNat, by omega⟩
  have hx : x ≤ 255 := by omega
  have hx2 : (x : Int) ≤ 255 := by omega
  have hnn : nn ≤ 65535 := by omega
  by_cases hlen : 60 < len
  · have hlen2 : (60 : Int) < len := by omega
    go_enter Try.func9, Try.ntmps9
    go_wp2_with (go_at_call 11; refine (works_ok _).mono ?_; rintro e w5 ⟨rfl, hb⟩; have HB := Lib.hid hb; clear hb)
    go_ret
    exact ⟨rfl, HB.out⟩
  have hlen2 : (len : Int) ≤ 60 := by omega
  have BG := Lib.hid (begin_any x 5 w hx (by omega))
  have HU := Lib.hid hu
  clear hu
  go_enter Try.func9, Try.ntmps9
  go_wp2_with (go_at_call 31; refine BG.out.mono ?_; rintro e w1 ⟨mb, b, rfl, HM0⟩)
  clear BG
  go_loopw [8] (fun v wr => ∃ k : Nat, k ≤ len ∧ v = .int .i64 k ∧ Hid (Ms w wr mb b (1 + x) 5 k)) (fun v _ => len - (intOf v).toNat)
  case atStart => exact ⟨0, Nat.zero_le _, rfl, HM0.out⟩
  case round =>
    obtain ⟨k, hk, rfl, HM⟩ := hrel
    clear HM0
    by_cases hlt : k < len
    · obtain ⟨B, off, rfl, hB, hcells⟩ := (HU.out.below HM.out.bel).at_ (show 0 < len by omega)
      have hT := HU.out.bd k hlt
      have TK : Hid (∀ X, Ms w X mb b (1 + x) 5 k → Calls Try.prog 32 #[.pointer (some ⟨mb, 0, none⟩), .agg #[.int .u8 (s k).kind, .int .u8 (s k).i, .int .u8 (s k).k]] X fun e w' => e = .returned (.bool true) ∧ Hid (Ms w w' mb b (1 + x) 5 (k + 1))) := fun X hX => turn_ok (s k) hT hX (by omega)
      have s1 : wr.cell? ⟨B, off + k * 3, none⟩ = some (.int .u8 (s k).kind) := hcells k hlt 0 _ rfl
      have s2 : wr.cell? ⟨B, off + k * 3 + 1, none⟩ = some (.int .u8 (s k).i) := hcells k hlt 1 _ rfl
      have s3 : wr.cell? ⟨B, off + k * 3 + 2, none⟩ = some (.int .u8 (s k).k) := hcells k hlt 2 _ rfl
      have hwk : IntKind.i64.wrap ((k : Int) + 1) = (k : Int) + 1 := by rw [IntKind.wrap_i64]; omega
      clear hcells hT
      generalize (s k).kind = T0 at *
      generalize (s k).i = T1 at *
      generalize (s k).k = T2 at *
      go_wp2_with (go_at_call 32; refine (TK.out _ HM.out).mono ?_; rintro e w5 ⟨rfl, HM5⟩)
      go_roundw
      case rel => exact ⟨k + 1, by omega, by go_num, HM5.out⟩
      case measure => simp [intOf]; omega
    · obtain rfl : k = len := by omega
      obtain ⟨p, tt, M, e, H, pR, qR, cR, R, pQ, qQ, cQ, Q, N, P, hMb, hMo, he⟩ := HM.out
      have BMb := Lib.hid hMb
      have BMo := Lib.hid (And.intro hMo he)
      have m0 : wr.cell? ⟨mb, 0, none⟩ = some (.pointer (some ⟨b, 0, none⟩)) := hMb.bm.cell 0
      have hq200 : qR ≤ 200 := by have := hMo.rl; have := hMb.lR; omega
      clear hMb hMo he HM
      have hw0 : IntKind.i64.wrap (0 - (nn : Int)) = -(nn : Int) := by rw [IntKind.wrap_i64]; omega
      have hw0' : IntKind.i64.wrap (-(nn : Int)) = -(nn : Int) := by rw [IntKind.wrap_i64]; omega
      have hw1 : IntKind.i64.wrap (257 + (nn : Int)) = 257 + (nn : Int) := by rw [IntKind.wrap_i64]; omega
      have hw2 : IntKind.i64.wrap (-1 - (nn : Int)) = -1 - (nn : Int) := by rw [IntKind.wrap_i64]; omega
      have hw3 : IntKind.i64.wrap (5 + (nn : Int)) = 5 + (nn : Int) := by rw [IntKind.wrap_i64]; omega
      have hw4 : IntKind.i64.wrap (256 + (nn : Int)) = 256 + (nn : Int) := by rw [IntKind.wrap_i64]; omega
      have hw5 : IntKind.i64.wrap (4 + (nn : Int)) = 4 + (nn : Int) := by rw [IntKind.wrap_i64]; omega
      have hw6 : IntKind.i64.wrap (nn : Int) = (nn : Int) := by rw [IntKind.wrap_i64]; omega
      have hw7 : IntKind.i64.wrap (x : Int) = (x : Int) := by rw [IntKind.wrap_i64]; omega
      have NB : Hid (∀ (z g : Int) (X : World), 0 ≤ g → (z < 1 ∨ 256 < z ∨ g < 1) → Calls Try.prog 12 #[.int .i64 z, .int .u32 g] X fun e w' => e = .returned (.tuple #[.pointer none, .int .i64 2]) ∧ X = w') := fun z g X h1 h2 => hnew_bad z g X h1 h2
      have MK : Hid (∀ (z : Int) (X : World), (z < 0 ∨ 4 < z) → I64 z → HSt w X b p tt H → Calls Try.prog 14 #[.pointer (some ⟨b, 0, none⟩), .int .i64 z, .bool false] X fun e w' => e = .returned (.tuple #[.agg #[.int .i64 0, .int .u32 0], .int .i64 2]) ∧ HSt w w' b p tt H ∧ Kept (HFoot b p tt) X w') := fun z X h1 h2 hX => by
        obtain ⟨a1, a2, a3⟩ := Hp.make_bad (H := H) (n := z) (hd := false) (fun h => by
          have e1 : (mk z false).n = z := rfl
          have := h.n0
          have := h.n4
          omega)
        refine (make_s z false _ _ h2 hX a2 a1).mono ?_
        rintro e w' ⟨h1, h2, h3⟩
        rw [a3] at h2
        exact ⟨h1, h2, h3⟩
      go_upto_region 19 with (first
        | (go_at_call 12; refine (NB.out _ _ _ (by omega) (by omega)).mono ?_; rintro e w5 ⟨rfl, rfl⟩)
        | (go_at_call 14; refine (MK.out _ _ (.inr (by omega)) ⟨by omega, by omega⟩ (M8.out.quiet (bel_new _ _)).st).mono ?_; rintro e w9 ⟨rfl, hS9, hk9⟩; have M9 := Lib.hid ((M8.out.quiet (bel_new _ _)).heap hk9 hS9); clear hS9 hk9)
        | (go_at_call 14; refine (MK.out _ _ (.inl (by omega)) ⟨by omega, by omega⟩ BMb.out.st).mono ?_; rintro e w8 ⟨rfl, hS8, hk8⟩; have M8 := Lib.hid (BMb.out.heap hk8 hS8); have m8 : w8.cell? ⟨mb, 0, none⟩ = some (.pointer (some ⟨b, 0, none⟩)) := M8.out.bm.cell 0; have m9 : (w8.alloc (.cells #[.int .i64 0, .int .u32 0] 34)).cell? ⟨mb, 0, none⟩ = some (.pointer (some ⟨b, 0, none⟩)) := (M8.out.quiet (bel_new _ _)).bm.cell 0; clear hS8 hk8))
      have M10 := Lib.hid (M9.out.quiet (bel_new _ (.cells #[.int .i64 0, .int .u32 0] 34)))
      go_cut [20] from 113 to 125 (fun v20 wx => ∃ B20 : Nat, v20 = .slice (some ⟨B20, 0, none⟩) 4 4 ∧ Hid (Mb w wx mb b p tt M e H pR qR cR R pQ qQ cQ Q N P ∧ Bk wx B20 34 (badc x nn)))
      case first =>
        go_wp2_with fail
        go_meet
        have hbk := Bk.new (w9.alloc (.cells #[.int .i64 0, .int .u32 0] 34)) 34 (badc x nn)
        rw [show (w9.alloc (.cells #[.int .i64 0, .int .u32 0] 34)).heap.size = w9.heap.size + 1 by simp] at hbk
        exact ⟨_, rfl, M10.out.quiet (bel_new _ _), hbk⟩
      case rest =>
        obtain ⟨B20, rfl, HR0⟩ := hcut
        -- what stays through the loops
        have RQ : Hid (∀ X Y, (Mb w X mb b p tt M e H pR qR cR R pQ qQ cQ Q N P ∧ Bk X B20 34 (badc x nn)) → Below X.heap.size X Y → (Mb w Y mb b p tt M e H pR qR cR R pQ qQ cQ Q N P ∧ Bk Y B20 34 (badc x nn))) := fun X Y h d => ⟨h.1.quiet d, h.2.below d⟩
        have RH : Hid (∀ X Y, (Mb w X mb b p tt M e H pR qR cR R pQ qQ cQ Q N P ∧ Bk X B20 34 (badc x nn)) → Kept (HFoot b p tt) X Y → HSt w Y b p tt H → (Mb w Y mb b p tt M e H pR qR cR R pQ qQ cQ Q N P ∧ Bk Y B20 34 (badc x nn))) := fun X Y h d hs => ⟨h.1.heap d hs, h.2.kept d (h.1.ref h.2).1⟩
        have ST : Hid (∀ (z g i vs vg E : Int), I64 i → Rr (vs, vg) → H.sE (z, g) i (vs, vg) = E → E ≠ 0 → ∀ X, HSt w X b p tt H → Calls Try.prog 20 #[.pointer (some ⟨b, 0, none⟩), .agg #[.int .i64 z, .int .u32 g], .int .i64 i, .agg #[.int .i64 vs, .int .u32 vg]] X fun e w' => e = .returned (.tuple #[.agg #[.int .i64 0, .int .u32 0], .int .i64 E]) ∧ HSt w w' b p tt H ∧ Kept (HFoot b p tt) X w') := fun z g i vs vg E h1 h2 h3 h4 X hX => by
          obtain ⟨a1, a2⟩ := Hp.store_no h3 h4
          refine (store_s z g i vs vg _ E h1 h2 hX a1 h3).mono ?_
          rintro e w' ⟨g1, g2, g3⟩
          rw [a2] at g2
          exact ⟨g1, g2, g3⟩
        clear NB MK M10 m0
        go_wp2_with fail
        go_loopw [21] (fun v wz => ∃ i : Nat, i ≤ 4 ∧ v = .int .i64 i ∧ Hid (Mb w wz mb b p tt M e H pR qR cR R pQ qQ cQ Q N P ∧ Bk wz B20 34 (badc x nn))) (fun v _ => 4 - (intOf v).toNat)
        case atStart => exact ⟨0, Nat.zero_le _, rfl, HR0.out⟩
        case round =>
          obtain ⟨i, hi, rfl, HR⟩ := hrel
          clear HR0
          obtain ⟨wz, hwz⟩ : ∃ wz, wz = wr := ⟨_, rfl⟩
          subst hwz
          rw [← re4_eq]
          by_cases hi4 : i < 4
          · have hi4' : (i : Int) < 4 := by omega
            obtain ⟨bs, bg, wn, q0, q1, hrr, hwn, hck⟩ := bad_at x nn hi4 hx hnn
            have hck := hck H BMo.out.1.nn BMo.out.1.lo
            have hwn0 : wn ≠ 0 := by rw [hwn]; split <;> decide
            have CB : Hid (∀ X Y, (Mb w X mb b p tt M e H pR qR cR R pQ qQ cQ Q N P ∧ Bk X B20 34 (badc x nn)) → Kept (HFoot b p tt) X Y → Y.cell? ⟨mb, 0, none⟩ = some (.pointer (some ⟨b, 0, none⟩)) ∧ Y.cell? ⟨B20, i * 2, none⟩ = some (.int .i64 bs) ∧ Y.cell? ⟨B20, i * 2 + 1, none⟩ = some (.int .u32 bg)) := fun X Y h hk => ⟨(h.1.bm.kept hk h.1.fm).cell 0, ((h.2.kept hk (h.1.ref h.2).1).cell _).trans q0, ((h.2.kept hk (h.1.ref h.2).1).cell _).trans q1⟩
            have FC := Lib.hid (And.intro hrr (And.intro hck hwn0))
            have LO : Hid (∀ X, HSt w X b p tt H → Calls Try.prog 18 #[.pointer (some ⟨b, 0, none⟩), .agg #[.int .i64 bs, .int .u32 bg], .int .i64 0] X fun e w' => e = .returned (.tuple #[.agg #[.int .i64 0, .int .u32 0], .int .i64 wn]) ∧ Below X.heap.size X w') := fun X hX => by
              obtain ⟨a1, a2⟩ := Hp.load_err (H := H) (r := (bs, bg)) (k := 0) (by rw [hck]; exact hwn0)
              exact load_s bs bg 0 _ wn hX ⟨by decide, by decide⟩ a2 (a1.trans hck)
            have OB : Hid (∀ X, HSt w X b p tt H → Calls Try.prog 26 #[.pointer (some ⟨b, 0, none⟩), .agg #[.int .i64 bs, .int .u32 bg]] X fun e w' => e = .returned (.tuple #[.agg #[.int .i64 ob0.n, .int .i64 ob0.a.1, .int .u32 ob0.a.2, .int .i64 ob0.b.1, .int .u32 ob0.b.2, .int .i64 ob0.c.1, .int .u32 ob0.c.2, .int .i64 ob0.d.1, .int .u32 ob0.d.2, .bool ob0.h], .int .i64 wn]) ∧ Below X.heap.size X w') := fun X hX =>
              obj_s bs bg ob0 wn hX (by unfold Hp.obj; rw [if_neg (by rw [hck]; exact hwn0)]) hck
            have HA : Hid (∀ X, HSt w X b p tt H → Calls Try.prog 27 #[.pointer (some ⟨b, 0, none⟩), .agg #[.int .i64 bs, .int .u32 bg]] X fun e w' => e = .returned (.bool false) ∧ Below X.heap.size X w') := fun X hX =>
              has_s bs bg false hX (by rw [hck]; simpa using hwn0)
            have FR : Hid (∀ X, HSt w X b p tt H → Calls Try.prog 16 #[.pointer (some ⟨b, 0, none⟩), .agg #[.int .i64 bs, .int .u32 bg]] X fun e w' => e = .returned (.int .i64 wn) ∧ HSt w w' b p tt H ∧ Kept (HFoot b p tt) X w') := fun X hX => by
              have := free_s bs bg wn hX hck
              rw [freed_not (by rw [hck]; exact hwn0)] at this
              exact this
            have Q01 := Lib.hid (And.intro q0 q1)
            clear hrr hck hwn0 q0 q1
            go_upto_if 133 with fail
            go_cut [22] from 126 to 133 (fun v22 wx => v22 = .int .i64 wn ∧ wz = wx)
            case first =>
              by_cases c : i ≤ 1
              · rw [if_pos c] at hwn
                subst hwn
                have hi1 : ¬ (1 : Int) < (i : Int) := by omega
                go_wp2_with fail
                go_meet
                exact ⟨rfl, rfl⟩
              · rw [if_neg c] at hwn
                subst hwn
                have hi1 : (1 : Int) < (i : Int) := by omega
                go_wp2_with fail
                go_meet
                exact ⟨rfl, rfl⟩
            case rest =>
              obtain ⟨rfl, rfl⟩ := hcut
              clear hwn
              go_upto_region 26 with fail
              go_cut [23, 24] from 134 to 145 (fun _ v24 wx => v24 = .int .i64 wn ∧ Hid (Mb w wx mb b p tt M e H pR qR cR R pQ qQ cQ Q N P ∧ Bk wx B20 34 (badc x nn)))
              case first =>
                refine re26_region mb b B20 i bs bg hi4' (S := fun _ => False) (Z1 := fun X => Below wz.heap.size wz X) (Z2 := fun X => Below wz.heap.size wz X) (0, 0) wn rfl rfl rfl rfl (bel_dr wz) (fun _ _ h => h.alloc h.size _) (fun _ _ h => h.alloc h.size _) (fun _ c u v hc _ h => (h.setCell (p := ⟨c, 0, none⟩) hc u).setCell (p := ⟨c, 1, none⟩) hc v) (fun _ h => h.elim) (fun X hX => CB.out wz X HR.out (hX.mono fun _ _ e => e.elim)) (fun X hX => (LO.out X (HR.out.1.quiet hX).st).mono fun e w' h => ⟨h.1, hX.trans (h.2.mono hX.size), Kept.of_below h.2⟩) ?_
                intro us B wx hk hz hb hl hu
                dsimp only [frmL, List.foldl, List.set_cons_succ, List.set_cons_zero, List.toList_toArray]
                go_wp2_with fail
                go_meet
                exact ⟨rfl, RQ.out _ _ HR.out hz⟩
              case rest =>
                obtain ⟨rfl, HRa⟩ := hcut
                obtain ⟨wa, hwa⟩ : ∃ wa, wa = wc := ⟨_, rfl⟩
                subst hwa
                go_upto_region 27 with fail
                go_cut [25, 26] from 146 to 158 (fun _ v26 wx => v26 = .int .i64 wn ∧ Hid (Mb w wx mb b p tt M e H pR qR cR R pQ qQ cQ Q N P ∧ Bk wx B20 34 (badc x nn)))
                case first =>
                  have ZL : Hid (w.heap.size ≤ wa.heap.size ∧ ∀ g, HFoot b p tt g → g < wa.heap.size) := ⟨HRa.out.1.st.bel.size, fun g hg => HRa.out.1.st.f.foot_lt hg⟩
                  refine re27_region mb b B20 i bs bg hi4' (S := HFoot b p tt) (Z1 := fun X => HSt w X b p tt H) (Z2 := fun X => HSt w X b p tt H) (0, 0) wn rfl rfl rfl rfl (HRa.out.1.st.quiet (bel_dr wa)) (fun _ _ h => h.quiet (bel_new _ _)) (fun _ _ h => h.quiet (bel_new _ _)) (fun X c u v hc hb h => st_box h (Nat.le_trans ZL.out.1 hc) hb u v) ZL.out.2 (fun X hX => CB.out wa X HRa.out hX) (fun X hX => ST.out bs bg 0 0 0 wn ⟨by decide, by decide⟩ ⟨by decide, by decide, by decide, by decide⟩ ((Hp.store_err (by rw [FC.out.2.1]; exact FC.out.2.2)).trans FC.out.2.1) FC.out.2.2 X hX) ?_
                  intro us B wx hk hz hb hl hu
                  dsimp only [frmL, List.foldl, List.set_cons_succ, List.set_cons_zero, List.toList_toArray]
                  go_wp2_with fail
                  go_meet
                  exact ⟨rfl, RH.out _ _ HRa.out hk hz⟩
                case rest =>
                  obtain ⟨rfl, HRb⟩ := hcut
                  clear HRa
                  obtain ⟨wb, hwb⟩ : ∃ wb, wb = wc := ⟨_, rfl⟩
                  subst hwb
                  go_upto_region 28 with fail
                  go_cut [27, 28] from 159 to 170 (fun _ v28 wx => v28 = .int .i64 wn ∧ Hid (Mb w wx mb b p tt M e H pR qR cR R pQ qQ cQ Q N P ∧ Bk wx B20 34 (badc x nn)))
                  case first =>
                    refine re28_region mb b B20 i bs bg hi4' (S := fun _ => False) (Z1 := fun X => Below wb.heap.size wb X) (Z2 := fun X => Below wb.heap.size wb X) ob0 wn rfl rfl rfl rfl (bel_dr wb) (fun _ _ h => h.alloc h.size _) (fun _ _ h => h.alloc h.size _) (fun _ _ o hc _ h => bel_put10 h hc o) (fun _ h => h.elim) (fun X hX => CB.out wb X HRb.out (hX.mono fun _ _ e => e.elim)) (fun X hX => (OB.out X (HRb.out.1.quiet hX).st).mono fun e w' h => ⟨h.1, hX.trans (h.2.mono hX.size), Kept.of_below h.2⟩) ?_
                    intro us B wx hk hz hb hl hu
                    dsimp only [frmL, List.foldl, List.set_cons_succ, List.set_cons_zero, List.toList_toArray]
                    go_wp2_with fail
                    go_meet
                    exact ⟨rfl, RQ.out _ _ HRb.out hz⟩
                  case rest =>
                    obtain ⟨rfl, HRc⟩ := hcut
                    clear HRb
                    obtain ⟨wd, hwd⟩ : ∃ wd, wd = wc := ⟨_, rfl⟩
                    subst hwd
                    have K0 : Hid (∀ X, Kept (HFoot b p tt) wd X → X.cell? ⟨mb, 0, none⟩ = some (.pointer (some ⟨b, 0, none⟩)) ∧ X.cell? ⟨B20, i * 2, none⟩ = some (.int .i64 bs) ∧ X.cell? ⟨B20, i * 2 + 1, none⟩ = some (.int .u32 bg)) := fun X hX => CB.out wd X HRc.out hX
                    go_upto_region 29 with fail
                    go_cut [207] from 171 to 207 (fun v207 wx => v207 = .bool false ∧ Hid (Mb w wx mb b p tt M e H pR qR cR R pQ qQ cQ Q N P ∧ Bk wx B20 34 (badc x nn)))
                    case first =>
                      go_region_held3 (fun X => X.cell? ⟨mb, 0, none⟩ = some (.pointer (some ⟨b, 0, none⟩)) ∧ X.cell? ⟨B20, i * 2, none⟩ = some (.int .i64 bs) ∧ X.cell? ⟨B20, i * 2 + 1, none⟩ = some (.int .u32 bg)) (first | (with_reducible assumption) | exact K0.out _ (Kept.refl _ wd).drew) (first
                        | (go_at_call 27; refine (HA.out _ S9.out).mono ?_; rintro e' w10 ⟨rfl, hb10⟩; have S10 := Lib.hid (S9.out.quiet hb10); have HK10 := Lib.hid (HK9.out.trans (Kept.of_below hb10)); have hz10 := K0.out _ HK10.out; clear hb10)
                        | (go_at_call 16; refine (FR.out _ (HRc.out.1.st.quiet (bel_dr wd))).mono ?_; rintro e' w9 ⟨rfl, hs9, hk9⟩; have S9 := Lib.hid hs9; have HK9 := Lib.hid ((Kept.refl (HFoot b p tt) wd).drew.trans hk9); have hz9 := K0.out _ HK9.out; clear hs9 hk9))
                      go_wp2_with fail
                      go_meet
                      exact ⟨rfl, RH.out _ _ HRc.out HK10.out S10.out⟩
                    case rest =>
                      obtain ⟨rfl, HRe⟩ := hcut
                      clear HRc K0
                      have hwi1 : IntKind.i64.wrap ((i : Int) + 1) = (i : Int) + 1 := by rw [IntKind.wrap_i64]; omega
                      go_wp2_with fail
                      refine re_inner BMo.out hq200 hnn hi4' Q01.out.1 Q01.out.2 FC.out.1 FC.out.2.1 FC.out.2.2 HRe.out ?_
                      intros
                      rename_i HI
                      have HI := Lib.hid HI
                      go_wp2
                      go_roundw
                      case rel => exact ⟨i + 1, by omega, by go_num, HI.out⟩
                      case measure => simp [intOf]; omega
          · obtain rfl : i = 4 := by omega
            go_wp2_with (first
              | (go_at_call 11; refine (works_ok _).mono ?_; rintro e w8 ⟨rfl, hb8⟩; have HB8 := Lib.hid (bel_tr HM7.out.bel hb8); clear hb8)
              | (go_at_call 33; refine (agrees_ok (n := 1 + x) (f := 5) (k := k) ⟨p, tt, M, e, H, pR, qR, cR, R, pQ, qQ, cQ, Q, N, P, HR.out.1, BMo.out.1, BMo.out.2⟩ (by omega)).mono ?_; rintro e w7 ⟨rfl, HM7⟩))
            go_ret
            exact ⟨rfl, HB8.out⟩
end Go.Proofs.Ytfnhkapbfgofkaa
