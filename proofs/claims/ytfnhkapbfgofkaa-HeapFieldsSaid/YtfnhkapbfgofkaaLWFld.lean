/- The walk of HeapFields: it returns true for every input. -/
import Derived.Test.YtfnhkapbfgofkaaWw
import Derived.Test.YtfnhkapbfgofkaaWac
namespace Go.Proofs.Ytfnhkapbfgofkaa
open Go.RowKit

set_option maxHeartbeats 8000000 in
set_option maxRecDepth 100000 in
theorem wFld_walk (x0 : Int) (a : Option Addr) (len cap : Nat) (s : Nat → Trn) (t : Trn) (w : World) (h00 : 0 ≤ x0) (h01 : x0 ≤ 255) (_ : len ≤ cap) (_ : cap ≤ 9223372036854775807) (hu : Trns w a len s) (ht : t.Ok) :
    Calls Try.prog 6 #[.int .u8 x0, .slice a len cap, .agg #[.int .u8 t.kind, .int .u8 t.i, .int .u8 t.k]] w fun e w' => e = .returned (.bool true) ∧ Below w.heap.size w w' := by
  obtain ⟨x, rfl⟩ : ∃ x : Nat, x0 = x := ⟨x0.toNat, by omega⟩
  have hx : x ≤ 255 := by omega
  have hx2 : (x : Int) ≤ 255 := by omega
  obtain ⟨w1, hw1⟩ : ∃ w1, w.alloc (.cells #[.int .u8 t.kind, .int .u8 t.i, .int .u8 t.k] 65) = w1 := ⟨_, rfl⟩
  have BW : Hid (Below w.heap.size w w1) := by rw [← hw1]; exact bel_new _ _
  have BT : Hid (Bk w1 w.heap.size 65 #[.int .u8 t.kind, .int .u8 t.i, .int .u8 t.k]) := by rw [← hw1]; exact Bk.new _ _ _
  have HW := Lib.hid hw1
  clear hw1
  by_cases hlen : 60 < len
  · have hlen2 : (60 : Int) < len := by omega
    go_enter Try.func6, Try.ntmps6
    go_upto_region 1 with fail
    rw [HW.out]
    go_wp2_with (go_at_call 11; refine (works_ok _).mono ?_; rintro e w5 ⟨rfl, hb⟩; have HB := Lib.hid (bel_tr BW.out hb); clear hb)
    go_ret
    exact ⟨rfl, HB.out⟩
  have hlen2 : (len : Int) ≤ 60 := by omega
  have BG := Lib.hid (begin_one x w1 hx)
  have HU := Lib.hid (hu.below BW.out)
  have TT : Hid (∀ X mb b, Ms w1 X mb b (1 + x) 1 len → Calls Try.prog 32 #[.pointer (some ⟨mb, 0, none⟩), .agg #[.int .u8 t.kind, .int .u8 t.i, .int .u8 t.k]] X fun e w' => e = .returned (.bool true) ∧ Hid (Ms w1 w' mb b (1 + x) 1 (len + 1))) := fun X mb b hX => turn_ok t ht hX (by omega)
  have CT : Hid (∀ X mb b k, Ms w1 X mb b (1 + x) 1 k → X.cell? ⟨w.heap.size, 0, none⟩ = some (.int .u8 t.kind) ∧ X.cell? ⟨w.heap.size, 1, none⟩ = some (.int .u8 t.i) ∧ X.cell? ⟨w.heap.size, 2, none⟩ = some (.int .u8 t.k)) := fun X mb b k hX => by
    have := BT.out.below hX.bel
    exact ⟨this.cell 0, this.cell 1, this.cell 2⟩
  clear hu ht
  generalize t.kind = t0 at *
  generalize t.i = t1 at *
  generalize t.k = t2 at *
  go_enter Try.func6, Try.ntmps6
  go_upto_region 1 with fail
  rw [HW.out]
  clear HW BT
  go_wp2_with (go_at_call 31; refine BG.out.mono ?_; rintro e w2 ⟨mb, b, rfl, HM0⟩)
  clear BG
  go_loopw [8] (fun v wr => ∃ k : Nat, k ≤ len ∧ v = .int .i64 k ∧ Hid (Ms w1 wr mb b (1 + x) 1 k)) (fun v _ => len - (intOf v).toNat)
  case atStart => exact ⟨0, Nat.zero_le _, rfl, HM0.out⟩
  case round =>
    obtain ⟨k, hk, rfl, HM⟩ := hrel
    clear HM0
    by_cases hlt : k < len
    · obtain ⟨B, off, rfl, hB, hcells⟩ := (HU.out.below HM.out.bel).at_ (show 0 < len by omega)
      have hT := HU.out.bd k hlt
      have TK : Hid (∀ X, Ms w1 X mb b (1 + x) 1 k → Calls Try.prog 32 #[.pointer (some ⟨mb, 0, none⟩), .agg #[.int .u8 (s k).kind, .int .u8 (s k).i, .int .u8 (s k).k]] X fun e w' => e = .returned (.bool true) ∧ Hid (Ms w1 w' mb b (1 + x) 1 (k + 1))) := fun X hX => turn_ok (s k) hT hX (by omega)
      have s1 : wr.cell? ⟨B, off + k * 3, none⟩ = some (.int .u8 (s k).kind) := hcells k hlt 0 _ rfl
      have s2 : wr.cell? ⟨B, off + k * 3 + 1, none⟩ = some (.int .u8 (s k).i) := hcells k hlt 1 _ rfl
      have s3 : wr.cell? ⟨B, off + k * 3 + 2, none⟩ = some (.int .u8 (s k).k) := hcells k hlt 2 _ rfl
      have hwk : IntKind.i64.wrap ((k : Int) + 1) = (k : Int) + 1 := by rw [IntKind.wrap_i64]; omega
      clear hcells hT
      generalize (s k).kind = T0 at *
      generalize (s k).i = T1 at *
      generalize (s k).k = T2 at *
      go_wp2_with (go_at_call 32; refine (TK.out _ HM.out).mono ?_; rintro e w5 ⟨rfl, HM5⟩)
      go_roundw
      case rel => exact ⟨k + 1, by omega, by go_num, HM5.out⟩
      case measure => simp [intOf]; omega
    · obtain rfl : k = len := by omega
      go_wp2_with (first
        | (go_at_call 32; refine (TT.out _ _ _ HM3.out).mono ?_; rintro e w4 ⟨rfl, HM4⟩)
        | (go_at_call 11; refine (works_ok _).mono ?_; rintro e w6 ⟨rfl, hb6⟩; have HB6 := Lib.hid (bel_tr (bel_tr BW.out HM5.out.bel) hb6); clear hb6)
        | (go_at_call 33; refine (agrees_ok HM4.out (by omega)).mono ?_; rintro e w5 ⟨rfl, HM5⟩)
        | (go_at_call 33; refine (agrees_ok HM.out (by omega)).mono ?_; rintro e w3 ⟨rfl, HM3⟩; obtain ⟨c0, c1, c2⟩ := CT.out _ _ _ _ HM3.out))
      go_ret
      exact ⟨rfl, HB6.out⟩
end Go.Proofs.Ytfnhkapbfgofkaa
