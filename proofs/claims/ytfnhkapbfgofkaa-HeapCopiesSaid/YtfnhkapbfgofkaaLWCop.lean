/- The walk of HeapCopies: it returns true for every input. -/
import Derived.Test.YtfnhkapbfgofkaaWw
import Derived.Test.YtfnhkapbfgofkaaWac
import Derived.Test.YtfnhkapbfgofkaaWva
namespace Go.Proofs.Ytfnhkapbfgofkaa
open Go.RowKit
attribute [local go_sem] eqArr

/-- Two heaps beside one another, made since w0. -/
structure Tw (w0 w : World) (bc pc tc : Nat) (K1 : Hp) (bd pd td : Nat) (K2 : Hp) : Prop where
  s1 : HSt w0 w bc pc tc K1
  s2 : HSt w0 w bd pd td K2
  ap : ∀ g, HFoot bc pc tc g → ¬ HFoot bd pd td g
/-- The blocks of either. -/
def Tfo (bc pc tc bd pd td : Nat) : Nat → Prop := fun g => HFoot bc pc tc g ∨ HFoot bd pd td g
section
variable {w0 w w' : World} {bc pc tc bd pd td : Nat} {K1 K2 K' : Hp}
theorem Tw.left (h : Tw w0 w bc pc tc K1 bd pd td K2) (k : Kept (HFoot bc pc tc) w w') (s : HSt w0 w' bc pc tc K') : Tw w0 w' bc pc tc K' bd pd td K2 := ⟨s, ⟨h.s2.f.kept k fun g hg e => h.ap g e hg, s.bel, h.s2.lo⟩, h.ap⟩
theorem Tw.right (h : Tw w0 w bc pc tc K1 bd pd td K2) (k : Kept (HFoot bd pd td) w w') (s : HSt w0 w' bd pd td K') : Tw w0 w' bc pc tc K1 bd pd td K' := ⟨⟨h.s1.f.kept k fun g hg e => h.ap g hg e, s.bel, h.s1.lo⟩, s, h.ap⟩
theorem Tw.quiet (h : Tw w0 w bc pc tc K1 bd pd td K2) (d : Below w.heap.size w w') : Tw w0 w' bc pc tc K1 bd pd td K2 := ⟨h.s1.quiet d, h.s2.quiet d, h.ap⟩
theorem Tw.box (h : Tw w0 w bc pc tc K1 bd pd td K2) {A : Nat} {u : TypeId} {cs : Array Value} (hA : Bk w A u cs) (h1 : u ≠ 49) (h2 : u ≠ 82) (h3 : u ≠ 112) : ¬ Tfo bc pc tc bd pd td A := by
  rintro (e | e)
  · exact h.s1.f.box hA h1 h2 h3 e
  · exact h.s2.f.box hA h1 h2 h3 e
theorem two_l {a b : World} (k : Kept (HFoot bc pc tc) a b) : Kept (Tfo bc pc tc bd pd td) a b := k.mono fun _ _ e => .inl e
theorem two_r {a b : World} (k : Kept (HFoot bd pd td) a b) : Kept (Tfo bc pc tc bd pd td) a b := k.mono fun _ _ e => .inr e
/-- A box of a turn or of a name stays. -/
theorem Tw.keep (h : Tw w0 w bc pc tc K1 bd pd td K2) {A : Nat} {u : TypeId} {cs : Array Value} (hA : Bk w A u cs) (k : Kept (Tfo bc pc tc bd pd td) w w') (hu : u = 34 ∨ u = 65) : Bk w' A u cs :=
  hA.kept k (h.box hA (by rcases hu with rfl | rfl <;> decide) (by rcases hu with rfl | rfl <;> decide) (by rcases hu with rfl | rfl <;> decide))
end
theorem copy_s {w0 w : World} {b p t : Nat} {H : Hp} (h : HSt w0 w b p t H) : Calls Try.prog 22 #[.pointer (some ⟨b, 0, none⟩)] w fun e w' => ∃ b' p' t', e = .returned (.pointer (some ⟨b', 0, none⟩)) ∧ HSt w w' b' p' t' H ∧ Below w.heap.size w w' := by
  refine (hcopy_ok b p t H w h.f).mono ?_
  rintro e w' ⟨b', rfl, hn⟩
  obtain ⟨p', t', hs⟩ := HSt.new hn.out
  exact ⟨b', p', t', rfl, hs, hs.bel⟩
set_option maxHeartbeats 16000000 in
set_option maxRecDepth 100000 in
theorem wCop_walk (x0 : Int) (a : Option Addr) (len cap : Nat) (s : Nat → Trn) (a2 : Option Addr) (len2 cap2 : Nat) (sm : Nat → Trn) (w : World) (h00 : 0 ≤ x0) (h01 : x0 ≤ 255) (_ : len ≤ cap) (_ : cap ≤ 9223372036854775807) (hu : Trns w a len s) (_ : len2 ≤ cap2) (_ : cap2 ≤ 9223372036854775807) (hu2 : Trns w a2 len2 sm) :
    Calls Try.prog 10 #[.int .u8 x0, .slice a len cap, .slice a2 len2 cap2] w fun e w' => e = .returned (.bool true) ∧ Below w.heap.size w w' := by
  obtain ⟨x, rfl⟩ : ∃ x : Nat, x0 = x := ⟨x0.toNat, by omega⟩
  have hx : x ≤ 255 := by omega
  have hx2 : (x : Int) ≤ 255 := by omega
  by_cases hlen : 60 < len
  · have hlen2 : (60 : Int) < len := by omega
    go_enter Try.func10, Try.ntmps10
    go_wp2_with (go_at_call 11; refine (works_ok _).mono ?_; rintro e w5 ⟨rfl, hb⟩; have HB := Lib.hid hb; clear hb)
    go_ret
    exact ⟨rfl, HB.out⟩
  have hlen2 : (len : Int) ≤ 60 := by omega
  by_cases hmen : 60 < len2
  · have hmen2 : (60 : Int) < len2 := by omega
    go_enter Try.func10, Try.ntmps10
    go_wp2_with (go_at_call 11; refine (works_ok _).mono ?_; rintro e w5 ⟨rfl, hb⟩; have HB := Lib.hid hb; clear hb)
    go_ret
    exact ⟨rfl, HB.out⟩
  have hmen2 : (len2 : Int) ≤ 60 := by omega
  have BG := Lib.hid (begin_any x 2 w hx (by omega))
  have HU := Lib.hid hu
  have HU2 := Lib.hid hu2
  clear hu hu2
  go_enter Try.func10, Try.ntmps10
  go_wp2_with (go_at_call 31; refine BG.out.mono ?_; rintro e w1 ⟨mb, b, rfl, HM0⟩)
  clear BG
  go_loopw [8] (fun v wr => ∃ k : Nat, k ≤ len ∧ v = .int .i64 k ∧ Hid (Ms w wr mb b (1 + x) (fg 2) k)) (fun v _ => len - (intOf v).toNat)
  case atStart => exact ⟨0, Nat.zero_le _, rfl, HM0.out⟩
  case round =>
    obtain ⟨k, hk, rfl, HM⟩ := hrel
    clear HM0
    by_cases hlt : k < len
    · obtain ⟨B, off, rfl, hB, hcells⟩ := (HU.out.below HM.out.bel).at_ (show 0 < len by omega)
      have hT := HU.out.bd k hlt
      have TK : Hid (∀ X, Ms w X mb b (1 + x) (fg 2) k → Calls Try.prog 32 #[.pointer (some ⟨mb, 0, none⟩), .agg #[.int .u8 (s k).kind, .int .u8 (s k).i, .int .u8 (s k).k]] X fun e w' => e = .returned (.bool true) ∧ Hid (Ms w w' mb b (1 + x) (fg 2) (k + 1))) := fun X hX => turn_ok (s k) hT hX (by omega)
      have s1 : wr.cell? ⟨B, off + k * 3, none⟩ = some (.int .u8 (s k).kind) := hcells k hlt 0 _ rfl
      have s2 : wr.cell? ⟨B, off + k * 3 + 1, none⟩ = some (.int .u8 (s k).i) := hcells k hlt 1 _ rfl
      have s3 : wr.cell? ⟨B, off + k * 3 + 2, none⟩ = some (.int .u8 (s k).k) := hcells k hlt 2 _ rfl
      have hwk : IntKind.i64.wrap ((k : Int) + 1) = (k : Int) + 1 := by rw [IntKind.wrap_i64]; omega
      clear hcells hT
      generalize (s k).kind = T0 at *
      generalize (s k).i = T1 at *
      generalize (s k).k = T2 at *
      go_wp2_with (go_at_call 32; refine (TK.out _ HM.out).mono ?_; rintro e w5 ⟨rfl, HM5⟩)
      go_roundw
      case rel => exact ⟨k + 1, by omega, by go_num, HM5.out⟩
      case measure => simp [intOf]; omega
    · obtain rfl : k = len := by omega
      obtain ⟨wA, hwA⟩ : ∃ wA, wA = wr := ⟨_, rfl⟩
      subst hwA
      obtain ⟨p, tt, M, e, H, pR, qR, cR, R, pQ, qQ, cQ, Q, N, P, hMb, hMo, he⟩ := HM.out
      have m0 : wA.cell? ⟨mb, 0, none⟩ = some (.pointer (some ⟨b, 0, none⟩)) := hMb.bm.cell 0
      have BM := Lib.hid hMb
      clear hMb hMo he
      go_upto_region 12 with (go_at_call 22; refine (copy_s BM.out.st).mono ?_; rintro e w3 ⟨bc, pc, tc, rfl, hs3, hb3⟩; have S3 := Lib.hid (And.intro hs3 hb3); have m3 : w3.cell? ⟨mb, 0, none⟩ = some (.pointer (some ⟨b, 0, none⟩)) := cell_stays hb3 m0; clear hs3 hb3)
      go_upto_region 13 with (go_at_call 22; refine (copy_s (BM.out.quiet S3.out.2).st).mono ?_; rintro e w4 ⟨bd, pd, td, rfl, hs4, hb4⟩; have S4 := Lib.hid (And.intro hs4 hb4); clear hs4 hb4)
      have TW0 : Hid (Tw wA w4 bc pc tc H bd pd td H) := by
        obtain ⟨a1, a2⟩ := S3.out
        obtain ⟨b1, b2⟩ := S4.out
        exact ⟨a1.quiet b2, ⟨b1.f, bel_tr a2 b2, fun g hg => Nat.le_trans a2.size (b1.lo g hg)⟩, fun g hg e => by
          have := a1.f.foot_lt hg
          have := b1.lo g e
          omega⟩
      clear S3 S4 BM m0 m3
      go_wp2_with fail
      go_loopw [11] (fun v wz => ∃ j : Nat, j ≤ len2 ∧ v = .int .i64 j ∧ ∃ K, Hid (Tw wA wz bc pc tc K bd pd td K)) (fun v _ => len2 - (intOf v).toNat)
      case atStart => exact ⟨0, Nat.zero_le _, rfl, _, TW0.out⟩
      case round =>
        obtain ⟨j, hj, rfl, K, HT⟩ := hrel
        clear TW0
        obtain ⟨wz, hwz⟩ : ∃ wz, wz = wr := ⟨_, rfl⟩
        subst hwz
        by_cases hjl : j < len2
        · as_aux_lemma =>
            obtain ⟨B, off, rfl, hB, hcells⟩ := (HU2.out.below (bel_tr HM.out.bel HT.out.s1.bel)).at_ (show 0 < len2 by omega)
            obtain ⟨hT0, hT1, hT2⟩ := HU2.out.bd j hjl
            have f1 : wz.cell? ⟨B, off + j * 3, none⟩ = some (.int .u8 (sm j).kind) := hcells j hjl 0 _ rfl
            have f2 : wz.cell? ⟨B, off + j * 3 + 1, none⟩ = some (.int .u8 (sm j).i) := hcells j hjl 1 _ rfl
            have f3 : wz.cell? ⟨B, off + j * 3 + 2, none⟩ = some (.int .u8 (sm j).k) := hcells j hjl 2 _ rfl
            have hwj : IntKind.i64.wrap ((j : Int) + 1) = (j : Int) + 1 := by rw [IntKind.wrap_i64]; omega
            clear hcells hB
            generalize (sm j).kind = T0 at *
            generalize (sm j).i = T1 at *
            generalize (sm j).k = T2 at *
            have hk4 : (T0 : Int).tmod 4 = ((T0 % 4 : Nat) : Int) := tmod_nat T0 4
            obtain ⟨k4, hk4e⟩ : ∃ k4, T0 % 4 = k4 := ⟨_, rfl⟩
            rw [hk4e] at hk4
            have hk4l : k4 < 4 := by rw [← hk4e]; exact Nat.mod_lt _ (by decide)
            go_upto_region 19 with fail
            obtain ⟨W1, hW1⟩ : ∃ W1, wz.alloc (.cells #[.int .u8 T0, .int .u8 T1, .int .u8 T2] 65) = W1 := ⟨_, rfl⟩
            have TW1 : Hid (Tw wA W1 bc pc tc K bd pd td K) := by rw [← hW1]; exact HT.out.quiet (bel_new _ _)
            have X1 : Hid (Bk W1 wz.heap.size 65 #[.int .u8 T0, .int .u8 T1, .int .u8 T2]) := by rw [← hW1]; exact Bk.new _ _ _
            rw [hW1]
            clear hW1 f1 f2 f3 hk4e
            generalize wz.heap.size = B12 at *
            have hnl := Lib.hid K.t.now_len
            go_upto_region 20 with (go_at_call 28; refine (all_s _ TW1.out.s1 rfl).mono ?_; rintro e w2 ⟨v, rfl, hrow, _, hb2⟩; obtain ⟨pA, cA, rfl⟩ := own_ref hrow; have ROW := Lib.hid hrow; have TW2 := Lib.hid (TW1.out.quiet hb2); have X2 := Lib.hid (X1.out.below hb2); clear hb2 hrow)
            have hLn2 : K.t.now.length ≤ 256 := by
              have h1 := K.t.held_len TW2.out.s1.f.ok.t
              have h2 := TW2.out.s1.f.ok.t.hi
              have := hnl.out
              omega
            have c0 : w2.cell? ⟨B12, 0, none⟩ = some (.int .u8 T0) := X2.out.cell 0
            have c1 : w2.cell? ⟨B12, 1, none⟩ = some (.int .u8 T1) := X2.out.cell 1
            have c2 : w2.cell? ⟨B12, 2, none⟩ = some (.int .u8 T2) := X2.out.cell 2
            by_cases hmake : k4 < 2
            · have hk4i : (k4 : Int) < 2 := by omega
              obtain ⟨m, hm⟩ : ∃ m, T1 % 5 = m := ⟨_, rfl⟩
              have hI5 : (T1 : Int).tmod 5 = (m : Int) := by have := tmod_nat T1 5; rw [hm] at this; exact this
              have hm5 : m < 5 := by rw [← hm]; exact Nat.mod_lt _ (by decide)
              have hwm : IntKind.i64.wrap (m : Int) = (m : Int) := by rw [IntKind.wrap_i64]; omega
              obtain ⟨q, hq⟩ : ∃ q, K.mR (m : Int) false = q := ⟨_, rfl⟩
              obtain ⟨E, hE⟩ : ∃ E, K.mE (m : Int) false = E := ⟨_, rfl⟩
              have M1 : Hid (∀ X, Tw wA X bc pc tc K bd pd td K → Calls Try.prog 14 #[.pointer (some ⟨bc, 0, none⟩), .int .i64 (m : Nat), .bool false] X fun e w' => e = .returned (.tuple #[.agg #[.int .i64 q.1, .int .u32 q.2], .int .i64 E]) ∧ Tw wA w' bc pc tc (K.made (m : Int) false) bd pd td K ∧ Kept (HFoot bc pc tc) X w') := fun X hX => (make_s (m : Int) false q E ⟨by omega, by omega⟩ hX.s1 hq hE).mono fun e w' h => ⟨h.1, hX.left h.2.2 h.2.1, h.2.2⟩
              have M2 : Hid (∀ X, Tw wA X bc pc tc (K.made (m : Int) false) bd pd td K → Calls Try.prog 14 #[.pointer (some ⟨bd, 0, none⟩), .int .i64 (m : Nat), .bool false] X fun e w' => e = .returned (.tuple #[.agg #[.int .i64 q.1, .int .u32 q.2], .int .i64 E]) ∧ Tw wA w' bc pc tc (K.made (m : Int) false) bd pd td (K.made (m : Int) false) ∧ Kept (HFoot bd pd td) X w') := fun X hX => (make_s (m : Int) false q E ⟨by omega, by omega⟩ hX.s2 hq hE).mono fun e w' h => ⟨h.1, hX.right h.2.2 h.2.1, h.2.2⟩
              clear hm hq hE
              generalize K.made (m : Int) false = K' at *
              go_upto_region 22 with (go_at_call 14; refine (M1.out _ TW2.out).mono ?_; rintro e w3 ⟨rfl, ht3, hk3⟩; have TW3 := Lib.hid ht3; have HK3 := Lib.hid hk3; clear ht3 hk3)
              obtain ⟨W3, hW3⟩ : ∃ W3, w3.alloc (.cells #[.int .i64 q.1, .int .u32 q.2] 34) = W3 := ⟨_, rfl⟩
              have TW3a : Hid (Tw wA W3 bc pc tc K' bd pd td K) := by rw [← hW3]; exact TW3.out.quiet (bel_new _ _)
              have X14 : Hid (Bk W3 w3.heap.size 34 (rfc q)) := by rw [← hW3]; exact Bk.new _ _ _
              have X3 : Hid (Bk W3 B12 65 #[.int .u8 T0, .int .u8 T1, .int .u8 T2]) := by rw [← hW3]; exact (TW2.out.keep X2.out (two_l HK3.out) (.inr rfl)).below (bel_new _ _)
              rw [hW3]
              clear hW3 c0 c1 c2
              generalize w3.heap.size = B14 at *
              have c1 : W3.cell? ⟨B12, 1, none⟩ = some (.int .u8 T1) := X3.out.cell 1
              go_upto_region 23 with (go_at_call 14; refine (M2.out _ TW3a.out).mono ?_; rintro e w4 ⟨rfl, ht4, hk4x⟩; have TW4 := Lib.hid ht4; have HK4 := Lib.hid hk4x; clear ht4 hk4x)
              obtain ⟨W4, hW4⟩ : ∃ W4, w4.alloc (.cells #[.int .i64 q.1, .int .u32 q.2] 34) = W4 := ⟨_, rfl⟩
              have TW4a : Hid (Tw wA W4 bc pc tc K' bd pd td K') := by rw [← hW4]; exact TW4.out.quiet (bel_new _ _)
              have X16 : Hid (Bk W4 w4.heap.size 34 (rfc q)) := by rw [← hW4]; exact Bk.new _ _ _
              have X14b : Hid (Bk W4 B14 34 (rfc q)) := by rw [← hW4]; exact (TW3a.out.keep X14.out (two_r HK4.out) (.inl rfl)).below (bel_new _ _)
              rw [hW4]
              clear hW4 c1
              generalize w4.heap.size = B16 at *
              obtain ⟨d0, d1⟩ := X14b.out.rf
              obtain ⟨e0, e1⟩ := X16.out.rf
              go_wp2
              go_roundw
              case rel => exact ⟨j + 1, by omega, by go_num, K', TW4a.out⟩
              case measure => simp [intOf]; omega
            · have hk4i : ¬ (k4 : Int) < 2 := by omega
              generalize hLn : K.t.now.length = Ln at *
              by_cases hn0 : Ln = 0
              · subst hn0
                go_wp2
                go_roundw
                case rel => exact ⟨j + 1, by omega, by go_num, K, TW2.out⟩
                case measure => simp [intOf]; omega
              · have hnp : (0 : Int) < (Ln : Int) := by omega
                have NI : ¬ (Ln : Int) = 0 := by omega
                have NB : ((Ln : Int) == 0) = false := by simpa using NI
                obtain ⟨y, hy⟩ : ∃ y, T1 % Ln = y := ⟨_, rfl⟩
                have hyr : (T1 : Int).tmod Ln = (y : Int) := by rw [tmod_nat, hy]
                have hyl : y < Ln := by rw [← hy]; exact Nat.mod_lt _ (by omega)
                obtain ⟨i, hi⟩ : ∃ i, K.t.held[y]? = some i := ⟨_, List.getElem?_eq_getElem (by have := hnl.out; omega)⟩
                obtain ⟨g, rfl, hca, hcm, bg, _, hcl⟩ := row_at ROW.out hLn (by omega)
                obtain ⟨r0, r1⟩ := hcl y (i, K.t.g i) (by simp [Tb.now, Tb.refs, hi])
                simp only at r0 r1
                obtain ⟨gi, hgi⟩ : ∃ gi, K.t.g i = gi := ⟨_, rfl⟩
                rw [hgi] at r1
                obtain ⟨hin, his⟩ := mem_sel.1 (List.mem_of_getElem? hi)
                have hck : K.chk ((i : Int), (gi : Int)) = 0 := Hp.chk_is hin his (by rw [hgi])
                have hrr : Rr ((i : Int), (gi : Int)) := (TW2.out.s1.f.ok.rf_ok hck).rr
                have hwI : IntKind.i64.wrap (T1 : Int) = (T1 : Int) := by rw [IntKind.wrap_i64]; omega
                obtain ⟨kk, hkk⟩ : ∃ kk, T2 % 4 = kk := ⟨_, rfl⟩
                have hK4 : (T2 : Int).tmod 4 = (kk : Int) := by have := tmod_nat T2 4; rw [hkk] at this; exact this
                have hkk4 : kk < 4 := by rw [← hkk]; exact Nat.mod_lt _ (by decide)
                have hwk : IntKind.i64.wrap (kk : Int) = (kk : Int) := by rw [IntKind.wrap_i64]; omega
                obtain ⟨q, hq⟩ : ∃ q, K.sR ((i : Int), (gi : Int)) (kk : Int) ((i : Int), (gi : Int)) = q := ⟨_, rfl⟩
                obtain ⟨E, hE⟩ : ∃ E, K.sE ((i : Int), (gi : Int)) (kk : Int) ((i : Int), (gi : Int)) = E := ⟨_, rfl⟩
                have M1 : Hid (∀ X, Tw wA X bc pc tc K bd pd td K → Calls Try.prog 20 #[.pointer (some ⟨bc, 0, none⟩), .agg #[.int .i64 (i : Nat), .int .u32 (gi : Nat)], .int .i64 (kk : Nat), .agg #[.int .i64 (i : Nat), .int .u32 (gi : Nat)]] X fun e w' => e = .returned (.tuple #[.agg #[.int .i64 q.1, .int .u32 q.2], .int .i64 E]) ∧ Tw wA w' bc pc tc (K.stored ((i : Int), (gi : Int)) (kk : Int) ((i : Int), (gi : Int))) bd pd td K ∧ Kept (HFoot bc pc tc) X w') := fun X hX => (store_s (i : Int) (gi : Int) (kk : Int) i gi q E ⟨by omega, by omega⟩ hrr hX.s1 hq hE).mono fun e w' h => ⟨h.1, hX.left h.2.2 h.2.1, h.2.2⟩
                have M2 : Hid (∀ X, Tw wA X bc pc tc (K.stored ((i : Int), (gi : Int)) (kk : Int) ((i : Int), (gi : Int))) bd pd td K → Calls Try.prog 20 #[.pointer (some ⟨bd, 0, none⟩), .agg #[.int .i64 (i : Nat), .int .u32 (gi : Nat)], .int .i64 (kk : Nat), .agg #[.int .i64 (i : Nat), .int .u32 (gi : Nat)]] X fun e w' => e = .returned (.tuple #[.agg #[.int .i64 q.1, .int .u32 q.2], .int .i64 E]) ∧ Tw wA w' bc pc tc (K.stored ((i : Int), (gi : Int)) (kk : Int) ((i : Int), (gi : Int))) bd pd td (K.stored ((i : Int), (gi : Int)) (kk : Int) ((i : Int), (gi : Int))) ∧ Kept (HFoot bd pd td) X w') := fun X hX => (store_s (i : Int) (gi : Int) (kk : Int) i gi q E ⟨by omega, by omega⟩ hrr hX.s2 hq hE).mono fun e w' h => ⟨h.1, hX.right h.2.2 h.2.1, h.2.2⟩
                clear hy hi hkk hq hE hcl hgi hin his hck hrr
                generalize K.stored ((i : Int), (gi : Int)) (kk : Int) ((i : Int), (gi : Int)) = K' at *
                go_upto_region 27 with fail
                obtain ⟨W5, hW5⟩ : ∃ W5, w2.alloc (.cells #[.int .i64 (i : Nat), .int .u32 (gi : Nat)] 34) = W5 := ⟨_, rfl⟩
                have TW5 : Hid (Tw wA W5 bc pc tc K bd pd td K) := by rw [← hW5]; exact TW2.out.quiet (bel_new _ _)
                have X18 : Hid (Bk W5 w2.heap.size 34 #[.int .i64 (i : Nat), .int .u32 (gi : Nat)]) := by rw [← hW5]; exact Bk.new _ _ _
                have X5 : Hid (Bk W5 B12 65 #[.int .u8 T0, .int .u8 T1, .int .u8 T2]) := by rw [← hW5]; exact X2.out.below (bel_new _ _)
                rw [hW5]
                clear hW5 c0 c1 c2 r0 r1
                generalize w2.heap.size = B18 at *
                have c2 : W5.cell? ⟨B12, 2, none⟩ = some (.int .u8 T2) := X5.out.cell 2
                have r0 : W5.cell? ⟨B18, 0, none⟩ = some (.int .i64 (i : Nat)) := X18.out.cell 0
                have r1 : W5.cell? ⟨B18, 1, none⟩ = some (.int .u32 (gi : Nat)) := X18.out.cell 1
                go_upto_region 28 with (go_at_call 20; refine (M1.out _ TW5.out).mono ?_; rintro e w6 ⟨rfl, ht6, hk6⟩; have TW6 := Lib.hid ht6; have HK6 := Lib.hid hk6; clear ht6 hk6)
                obtain ⟨W6, hW6⟩ : ∃ W6, w6.alloc (.cells #[.int .i64 q.1, .int .u32 q.2] 34) = W6 := ⟨_, rfl⟩
                have TW6a : Hid (Tw wA W6 bc pc tc K' bd pd td K) := by rw [← hW6]; exact TW6.out.quiet (bel_new _ _)
                have X19 : Hid (Bk W6 w6.heap.size 34 (rfc q)) := by rw [← hW6]; exact Bk.new _ _ _
                have X6 : Hid (Bk W6 B12 65 #[.int .u8 T0, .int .u8 T1, .int .u8 T2]) := by rw [← hW6]; exact (TW5.out.keep X5.out (two_l HK6.out) (.inr rfl)).below (bel_new _ _)
                have X18b : Hid (Bk W6 B18 34 #[.int .i64 (i : Nat), .int .u32 (gi : Nat)]) := by rw [← hW6]; exact (TW5.out.keep X18.out (two_l HK6.out) (.inl rfl)).below (bel_new _ _)
                rw [hW6]
                clear hW6 c2 r0 r1
                generalize w6.heap.size = B19 at *
                have c2 : W6.cell? ⟨B12, 2, none⟩ = some (.int .u8 T2) := X6.out.cell 2
                have r0 : W6.cell? ⟨B18, 0, none⟩ = some (.int .i64 (i : Nat)) := X18b.out.cell 0
                have r1 : W6.cell? ⟨B18, 1, none⟩ = some (.int .u32 (gi : Nat)) := X18b.out.cell 1
                go_upto_region 29 with (go_at_call 20; refine (M2.out _ TW6a.out).mono ?_; rintro e w7 ⟨rfl, ht7, hk7⟩; have TW7 := Lib.hid ht7; have HK7 := Lib.hid hk7; clear ht7 hk7)
                obtain ⟨W7, hW7⟩ : ∃ W7, w7.alloc (.cells #[.int .i64 q.1, .int .u32 q.2] 34) = W7 := ⟨_, rfl⟩
                have TW7a : Hid (Tw wA W7 bc pc tc K' bd pd td K') := by rw [← hW7]; exact TW7.out.quiet (bel_new _ _)
                have X21 : Hid (Bk W7 w7.heap.size 34 (rfc q)) := by rw [← hW7]; exact Bk.new _ _ _
                have X7 : Hid (Bk W7 B12 65 #[.int .u8 T0, .int .u8 T1, .int .u8 T2]) := by rw [← hW7]; exact (TW6a.out.keep X6.out (two_r HK7.out) (.inr rfl)).below (bel_new _ _)
                have X18c : Hid (Bk W7 B18 34 #[.int .i64 (i : Nat), .int .u32 (gi : Nat)]) := by rw [← hW7]; exact (TW6a.out.keep X18b.out (two_r HK7.out) (.inl rfl)).below (bel_new _ _)
                have X19b : Hid (Bk W7 B19 34 (rfc q)) := by rw [← hW7]; exact (TW6a.out.keep X19.out (two_r HK7.out) (.inl rfl)).below (bel_new _ _)
                rw [hW7]
                clear hW7 c2 r0 r1
                generalize w7.heap.size = B21 at *
                have KS : Hid (∀ X, Kept (Tfo bc pc tc bd pd td) W7 X → X.cell? ⟨B12, 0, none⟩ = some (.int .u8 T0) ∧ X.cell? ⟨B18, 0, none⟩ = some (.int .i64 (i : Nat)) ∧ X.cell? ⟨B18, 1, none⟩ = some (.int .u32 (gi : Nat)) ∧ X.cell? ⟨B19, 0, none⟩ = some (.int .i64 q.1) ∧ X.cell? ⟨B19, 1, none⟩ = some (.int .u32 q.2) ∧ X.cell? ⟨B21, 0, none⟩ = some (.int .i64 q.1) ∧ X.cell? ⟨B21, 1, none⟩ = some (.int .u32 q.2)) := fun X hk => by
                  have y1 := TW7a.out.keep X7.out hk (.inr rfl)
                  have y2 := TW7a.out.keep X18c.out hk (.inl rfl)
                  have y3 := TW7a.out.keep X19b.out hk (.inl rfl)
                  have y4 := TW7a.out.keep X21.out hk (.inl rfl)
                  exact ⟨y1.cell 0, y2.cell 0, y2.cell 1, y3.cell 0, y3.cell 1, y4.cell 0, y4.cell 1⟩
                by_cases hfree : k4 = 2
                · subst hfree
                  obtain ⟨E2, hE2⟩ : ∃ E2, K'.chk ((i : Int), (gi : Int)) = E2 := ⟨_, rfl⟩
                  have F1 : Hid (∀ X, Tw wA X bc pc tc K' bd pd td K' → Calls Try.prog 16 #[.pointer (some ⟨bc, 0, none⟩), .agg #[.int .i64 (i : Nat), .int .u32 (gi : Nat)]] X fun e w' => e = .returned (.int .i64 E2) ∧ Tw wA w' bc pc tc (K'.freed ((i : Int), (gi : Int))) bd pd td K' ∧ Kept (HFoot bc pc tc) X w') := fun X hX => (free_s (i : Int) (gi : Int) E2 hX.s1 hE2).mono fun e w' h => ⟨h.1, hX.left h.2.2 h.2.1, h.2.2⟩
                  have F2 : Hid (∀ X, Tw wA X bc pc tc (K'.freed ((i : Int), (gi : Int))) bd pd td K' → Calls Try.prog 16 #[.pointer (some ⟨bd, 0, none⟩), .agg #[.int .i64 (i : Nat), .int .u32 (gi : Nat)]] X fun e w' => e = .returned (.int .i64 E2) ∧ Tw wA w' bc pc tc (K'.freed ((i : Int), (gi : Int))) bd pd td (K'.freed ((i : Int), (gi : Int))) ∧ Kept (HFoot bd pd td) X w') := fun X hX => (free_s (i : Int) (gi : Int) E2 hX.s2 hE2).mono fun e w' h => ⟨h.1, hX.right h.2.2 h.2.1, h.2.2⟩
                  clear hE2
                  generalize K'.freed ((i : Int), (gi : Int)) = K3 at *
                  go_region_held3 (fun X => X.cell? ⟨B12, 0, none⟩ = some (.int .u8 T0) ∧ X.cell? ⟨B18, 0, none⟩ = some (.int .i64 (i : Nat)) ∧ X.cell? ⟨B18, 1, none⟩ = some (.int .u32 (gi : Nat)) ∧ X.cell? ⟨B19, 0, none⟩ = some (.int .i64 q.1) ∧ X.cell? ⟨B19, 1, none⟩ = some (.int .u32 q.2) ∧ X.cell? ⟨B21, 0, none⟩ = some (.int .i64 q.1) ∧ X.cell? ⟨B21, 1, none⟩ = some (.int .u32 q.2)) (first | (with_reducible assumption) | exact KS.out _ (Kept.refl _ W7).drew) (first
                    | (go_at_call 16; with_reducible refine (F2.out _ TW8.out).mono ?_; rintro e' w9 ⟨rfl, ht9, hk9⟩; have TW9 := Lib.hid ht9; have hz9 := KS.out _ (HK8.out.trans (two_r hk9)); clear ht9 hk9)
                    | (go_at_call 16; with_reducible refine (F1.out _ (TW7a.out.quiet (bel_dr W7))).mono ?_; rintro e' w8 ⟨rfl, ht8, hk8⟩; have TW8 := Lib.hid ht8; have HK8 := Lib.hid ((Kept.refl (Tfo bc pc tc bd pd td) W7).drew.trans (two_l hk8)); have hz8 := KS.out _ HK8.out; clear ht8 hk8))
                  go_wp2
                  go_roundw
                  case rel => exact ⟨j + 1, by omega, by go_num, K3, TW9.out⟩
                  case measure => simp [intOf]; omega
                · have hk4b : ((k4 : Int) == 2) = false := by simpa using (by omega : ¬ (k4 : Int) = 2)
                  obtain ⟨c0, r0, r1, d0, d1, e0, e1⟩ := KS.out _ (Kept.refl _ W7)
                  go_quiet (fail)
                  go_wp2
                  go_roundw
                  case rel => exact ⟨j + 1, by omega, by go_num, K', TW7a.out.quiet (bel_drn _ _)⟩
                  case measure => simp [intOf]; omega
        · as_aux_lemma =>
            obtain rfl : j = len2 := by omega
            obtain ⟨nK, hnK⟩ : ∃ nK, K.t.now = nK := ⟨_, rfl⟩
            obtain ⟨Ln, hLn⟩ : ∃ Ln, nK.length = Ln := ⟨_, rfl⟩
            have HN : Hid (∀ y : Nat, y < Ln → ∃ i gi : Nat, nK[y]? = some (i, gi) ∧ K.chk ((i : Int), (gi : Int)) = 0) := fun y hy => by
              have hyl : y < K.t.held.length := by rw [← K.t.now_len, hnK, hLn]; exact hy
              have hi : K.t.held[y]? = some K.t.held[y] := List.getElem?_eq_getElem hyl
              obtain ⟨hin, his⟩ := mem_sel.1 (List.mem_of_getElem? hi)
              exact ⟨K.t.held[y], K.t.g K.t.held[y], by rw [← hnK]; simp [Tb.now, Tb.refs, hyl], Hp.chk_is hin his rfl⟩
            have A1 : Hid (∀ X, Tw wA X bc pc tc K bd pd td K → Calls Try.prog 28 #[.pointer (some ⟨bc, 0, none⟩)] X (TakenV nK X)) := fun X hX => all_s nK hX.s1 hnK
            have A2 : Hid (∀ X, Tw wA X bc pc tc K bd pd td K → Calls Try.prog 28 #[.pointer (some ⟨bd, 0, none⟩)] X (TakenV nK X)) := fun X hX => all_s nK hX.s2 hnK
            obtain ⟨lf, hlf⟩ : ∃ lf, K.t.free.length = lf := ⟨_, rfl⟩
            have L1 : Hid (∀ X, Tw wA X bc pc tc K bd pd td K → Calls Try.prog 30 #[.pointer (some ⟨bc, 0, none⟩)] X fun e w' => e = .returned (.int .i64 lf) ∧ Below X.heap.size X w') := fun X hX => left_s lf hX.s1 hlf
            have L2 : Hid (∀ X, Tw wA X bc pc tc K bd pd td K → Calls Try.prog 30 #[.pointer (some ⟨bd, 0, none⟩)] X fun e w' => e = .returned (.int .i64 lf) ∧ Below X.heap.size X w') := fun X hX => left_s lf hX.s2 hlf
            have hL256 : Ln ≤ 256 := by
              have h1 := K.t.held_len HT.out.s1.f.ok.t
              have h2 := HT.out.s1.f.ok.t.hi
              have := K.t.now_len
              rw [hnK, hLn] at this
              omega
            clear hnK hlf
            go_upto_region 32 with (first
              | (go_at_call 28; refine (A2.out _ TW8.out).mono ?_; rintro e w9 ⟨v, rfl, hrow, _, hb9⟩; obtain ⟨pB, cB, rfl⟩ := own_ref hrow; have ROW2 := Lib.hid hrow; have HB9 := Lib.hid hb9; clear hb9 hrow)
              | (go_at_call 28; refine (A1.out _ HT.out).mono ?_; rintro e w8 ⟨v, rfl, hrow, _, hb8⟩; obtain ⟨pA, cA, rfl⟩ := own_ref hrow; have ROW1 := Lib.hid hrow; have TW8 := Lib.hid (HT.out.quiet hb8); clear hb8 hrow))
            have TW9 := Lib.hid (TW8.out.quiet HB9.out)
            have RA : Hid (∀ y i gi : Nat, nK[y]? = some (i, gi) → ∃ g h, pA = some ⟨g, 0, none⟩ ∧ pB = some ⟨h, 0, none⟩ ∧ Ln ≤ cA ∧ cA ≤ 9223372036854775807 ∧ Ln ≤ cB ∧ cB ≤ 9223372036854775807 ∧ w9.cell? ⟨g, y * 2, none⟩ = some (.int .i64 i) ∧ w9.cell? ⟨g, y * 2 + 1, none⟩ = some (.int .u32 gi) ∧ w9.cell? ⟨h, y * 2, none⟩ = some (.int .i64 i) ∧ w9.cell? ⟨h, y * 2 + 1, none⟩ = some (.int .u32 gi)) := fun y i gi hy => by
              have hyl : y < nK.length := (List.getElem?_eq_some_iff.1 hy).1
              obtain ⟨g, e1, e2, e3, _, _, hc⟩ := row_at ROW1.out rfl (by omega)
              obtain ⟨h, b1, b2, b3, _, _, hd⟩ := row_at ROW2.out rfl (by omega)
              obtain ⟨c1, c2⟩ := hc y (i, gi) hy
              obtain ⟨d1, d2⟩ := hd y (i, gi) hy
              rw [hLn] at e2 b2
              exact ⟨g, h, e1, b1, e2, e3, b2, b3, cell_stays HB9.out c1, cell_stays HB9.out c2, d1, d2⟩
            clear ROW1 ROW2 A1 A2 TW8 HB9
            clear hLn
            go_wp2_with (first
              | (go_at_call 30; refine (L2.out _ (TW9.out.quiet HB10.out)).mono ?_; rintro e w11 ⟨rfl, hb11⟩; have HB11 := Lib.hid (bel_tr HB10.out hb11); clear hb11)
              | (go_at_call 30; refine (L1.out _ TW9.out).mono ?_; rintro e w10 ⟨rfl, hb10⟩; have HB10 := Lib.hid hb10; clear hb10))
            go_loopw [25] (fun v wy => ∃ y : Nat, y ≤ Ln ∧ v = .int .i64 y ∧ Hid (Below w9.heap.size w9 wy)) (fun v _ => Ln - (intOf v).toNat)
            case atStart => exact ⟨0, Nat.zero_le _, rfl, HB11.out⟩
            case round =>
              obtain ⟨y, hy, rfl, HY⟩ := hrel
              clear HB11 HB10
              obtain ⟨wy, hwy⟩ : ∃ wy, wy = wr := ⟨_, rfl⟩
              subst hwy
              by_cases hyl : y < Ln
              · obtain ⟨i, gi, hi, hck⟩ := HN.out y hyl
                obtain ⟨g, h, rfl, rfl, ha1, ha2, hb1, hb2, g0, g1, h0, h1⟩ := RA.out y i gi hi
                obtain ⟨o, ho⟩ : ∃ o, K.obj ((i : Int), (gi : Int)) = o := ⟨_, rfl⟩
                have O1 : Hid (∀ X, Tw wA X bc pc tc K bd pd td K → Calls Try.prog 26 #[.pointer (some ⟨bc, 0, none⟩), .agg #[.int .i64 (i : Nat), .int .u32 (gi : Nat)]] X fun e w' => e = .returned (.tuple #[.agg #[.int .i64 o.n, .int .i64 o.a.1, .int .u32 o.a.2, .int .i64 o.b.1, .int .u32 o.b.2, .int .i64 o.c.1, .int .u32 o.c.2, .int .i64 o.d.1, .int .u32 o.d.2, .bool o.h], .int .i64 0]) ∧ Below X.heap.size X w') := fun X hX => obj_s (i : Int) (gi : Int) o 0 hX.s1 ho hck
                have O2 : Hid (∀ X, Tw wA X bc pc tc K bd pd td K → Calls Try.prog 26 #[.pointer (some ⟨bd, 0, none⟩), .agg #[.int .i64 (i : Nat), .int .u32 (gi : Nat)]] X fun e w' => e = .returned (.tuple #[.agg #[.int .i64 o.n, .int .i64 o.a.1, .int .u32 o.a.2, .int .i64 o.b.1, .int .u32 o.b.2, .int .i64 o.c.1, .int .u32 o.c.2, .int .i64 o.d.1, .int .u32 o.d.2, .bool o.h], .int .i64 0]) ∧ Below X.heap.size X w') := fun X hX => obj_s (i : Int) (gi : Int) o 0 hX.s2 ho hck
                have CE : Hid (∀ X, Below w9.heap.size w9 X → X.cell? ⟨g, y * 2, none⟩ = some (.int .i64 (i : Nat)) ∧ X.cell? ⟨g, y * 2 + 1, none⟩ = some (.int .u32 (gi : Nat)) ∧ X.cell? ⟨h, y * 2, none⟩ = some (.int .i64 (i : Nat)) ∧ X.cell? ⟨h, y * 2 + 1, none⟩ = some (.int .u32 (gi : Nat))) := fun X hX => ⟨cell_stays hX g0, cell_stays hX g1, cell_stays hX h0, cell_stays hX h1⟩
                have hwy : IntKind.i64.wrap ((y : Int) + 1) = (y : Int) + 1 := by rw [IntKind.wrap_i64]; omega
                clear g0 g1 h0 h1 hi ho hck
                obtain ⟨g0, g1, h0, h1⟩ := CE.out wy HY.out
                go_upto_region 38 with (go_at_call 26; refine (O1.out _ (TW9.out.quiet HY.out)).mono ?_; rintro e wa ⟨rfl, hba⟩; have HBa := Lib.hid (HY.out.trans (hba.mono HY.out.size)); clear hba)
                obtain ⟨Wa, hWa⟩ : ∃ Wa, wa.alloc (.cells (obc o) 53) = Wa := ⟨_, rfl⟩
                have Ba : Hid (Below w9.heap.size w9 Wa) := by rw [← hWa]; exact HBa.out.alloc HBa.out.size _
                have X26 : Hid (Bk Wa wa.heap.size 53 (obc o)) := by rw [← hWa]; exact Bk.new _ _ _
                unfold obc at hWa
                rw [hWa]
                clear hWa g0 g1 h0 h1
                generalize wa.heap.size = B26 at *
                obtain ⟨g0, g1, h0, h1⟩ := CE.out Wa Ba.out
                go_upto_region 39 with (go_at_call 26; refine (O2.out _ (TW9.out.quiet Ba.out)).mono ?_; rintro e wb ⟨rfl, hbb⟩; have HBb := Lib.hid hbb; clear hbb)
                obtain ⟨Wb, hWb⟩ : ∃ Wb, wb.alloc (.cells (obc o) 53) = Wb := ⟨_, rfl⟩
                have Bb : Hid (Below w9.heap.size w9 Wb) := by rw [← hWb]; exact (Ba.out.trans (HBb.out.mono Ba.out.size)).alloc (Nat.le_trans Ba.out.size HBb.out.size) _
                have X28 : Hid (Bk Wb wb.heap.size 53 (obc o)) := by rw [← hWb]; exact Bk.new _ _ _
                have X26b : Hid (Bk Wb B26 53 (obc o)) := by rw [← hWb]; exact (X26.out.below HBb.out).below (bel_new _ _)
                unfold obc at hWb
                rw [hWb]
                clear hWb g0 g1 h0 h1
                generalize wb.heap.size = B28 at *
                obtain ⟨g0, g1, h0, h1⟩ := CE.out Wb Bb.out
                obtain ⟨o0, o1, o2, o3, o4, o5, o6, o7, o8, o9⟩ := X26b.out.ob
                obtain ⟨p0, p1, p2, p3, p4, p5, p6, p7, p8, p9⟩ := X28.out.ob
                go_quiet (fail)
                go_wp2
                go_roundw
                case rel => exact ⟨y + 1, by omega, by go_num, Bb.out.trans ((bel_drn Wb _).mono Bb.out.size)⟩
                case measure => simp [intOf]; omega
              · obtain rfl : y = Ln := by omega
                have MZ := Lib.hid (HM.out.quiet ((TW9.out.quiet HY.out).s1.bel))
                go_wp2_with (first
                  | (go_at_call 11; refine (works_ok _).mono ?_; rintro e w13 ⟨rfl, hb13⟩; have HB13 := Lib.hid (bel_tr HM12.out.bel hb13); clear hb13)
                  | (go_at_call 33; refine (agrees_ok MZ.out (by omega)).mono ?_; rintro e w12 ⟨rfl, HM12⟩))
                go_ret
                exact ⟨rfl, HB13.out⟩
end Go.Proofs.Ytfnhkapbfgofkaa
