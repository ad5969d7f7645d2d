/- The contract of the helper filled: a ledger with a list's attempts. -/
import Derived.Test.YtenggngcigkakaaGreatDoorHx
namespace Go.Proofs.YtenggngcigkakaaGreatDoor
open Go.RowKit

theorem Far.of_old {w w' : World} {b bk : Nat} {v : Value} {l L : List Att} (h : RdA w v l) (hl : LedW w' b bk w.heap.size L) (hb : Below w.heap.size w w') (hv : ∀ g off n c, v = .slice (some ⟨g, off, none⟩) n c → g < w.heap.size) : Far w' bk v l :=
  ⟨h.below hb, fun g off n c e => ⟨fun hg => by have := (hl.foot_le hg).1; have := hv g off n c e; omega, Nat.lt_of_lt_of_le (hv g off n c e) hb.size⟩⟩
/-- What filled gives: a ledger with these attempts, apart from the list itself. -/
def FilledV (v : Value) (l : List Att) (w : World) (e : Ending) (w' : World) : Prop := ∃ b bk, e = .returned (.pointer (some ⟨b, 0, none⟩)) ∧ LedW w' b bk w.heap.size l ∧ Far w' bk v l ∧ Below w.heap.size w w'
set_option maxRecDepth 100000 in
set_option maxHeartbeats 4000000 in
theorem filled_ok (p : Option Addr) (n c : Nat) (l : List Att) (w : World) (hr : RdA w (.slice p n c) l) (hv : ∀ g off n' c', Value.slice p n c = .slice (some ⟨g, off, none⟩) n' c' → g < w.heap.size) (hs : Steady l) (he : EnvL w) : Calls Tryz.prog 46 #[.slice p n c] w (FilledV (.slice p n c) l w) := by
  obtain ⟨rfl, hcap, hcm, _⟩ := hr.cap
  have HE := Lib.hid he
  have HR := Lib.hid hr
  have HV := Lib.hid hv
  have HS := Lib.hid hs
  clear he hr hv hs
  go_enter Tryz.func46, Tryz.ntmps46
  go_wp2_with fail
  refine (new_ok _).mono ?_
  rintro e w1 ⟨rfl, hl1, hb1⟩
  have HL1 := Lib.hid hl1
  have HB1 := Lib.hid hb1
  have HF1 := Lib.hid (Far.of_old HR.out hl1 hb1 HV.out)
  clear hl1 hb1
  go_wp2
  go_loopw [9] (fun i wr => ∃ j : Nat, j ≤ l.length ∧ i = .int .i64 j ∧ Hid (LedW wr (w.heap.size + 2) (w.heap.size + 1) w.heap.size (l.take j)) ∧ Hid (Far wr (w.heap.size + 1) (.slice p l.length c) l) ∧ Hid (Below w.heap.size w wr)) (fun i _ => l.length - (intOf i).toNat)
  case atStart => exact ⟨0, Nat.zero_le _, rfl, HL1, HF1, HB1⟩
  case round =>
    obtain ⟨j, hj, rfl, HL, HF, HB⟩ := hrel
    clear HL1 HB1 HF1
    by_cases hlt : j < l.length
    · obtain ⟨gl, off, rfl, hgl, hsix⟩ := HF.out.rd.cell hlt
      have HXO := Lib.hid (HS.out.ok _ (List.getElem_mem hlt))
      have HSN := Lib.hid (HS.out.addL hlt)
      have HSE := Lib.hid (HS.out.add hlt)
      generalize l[j] = x at *
      obtain ⟨c0, c1, c2, c3, c4, c5⟩ := hsix
      have hW3 := bel_new wr (.cells #[.int .i64 x.t, .int .i64 x.k, .int .i64 x.i, .int .u32 x.g, .int .i64 x.y, .int .i64 x.n] 32)
      have hbx : Bk (wr.alloc (.cells #[.int .i64 x.t, .int .i64 x.k, .int .i64 x.i, .int .u32 x.g, .int .i64 x.y, .int .i64 x.n] 32)) wr.heap.size 32 x.cl.toArray := Bk.new wr _ _
      obtain ⟨d0, d1, d2, d3, d4, d5⟩ := six_new hbx
      simp only [Nat.zero_add] at d0 d1 d2 d3 d4 d5
      have HBW := Lib.hid (bel2 HB.out hW3)
      have HL3 := Lib.hid (HL.out.below hW3).1
      have HF3 := Lib.hid (HF.out.below HL.out hW3)
      clear hW3 hbx
      go_wp2_with fail
      generalize wr.alloc (.cells #[.int .i64 x.t, .int .i64 x.k, .int .i64 x.i, .int .u32 x.g, .int .i64 x.y, .int .i64 x.n] 32) = W3 at *
      clear c0 c1 c2 c3 c4 c5
      refine (add_ok _ _ _ _ x _ HL3.out HXO.out.rg (HE.out.below HBW.out)).mono ?_
      rintro e w4 ⟨rfl, hl4, hk4, hf4⟩
      have HF4 := Lib.hid (HF3.out.add hk4 hf4)
      have HB4 := Lib.hid (HBW.out.trans (hk4.below HBW.out.size (fun g hg => (HL3.out.foot_le hg).1)))
      rw [HSN.out] at hl4
      rw [HSE.out]
      have HL4 := Lib.hid hl4
      clear hl4 hk4 hf4 d0 d1 d2 d3 d4 d5
      go_wp2
      go_roundw
      case rel => exact ⟨j + 1, by omega, by go_num, HL4.out, HF4.out, HB4.out⟩
      case measure => simp [intOf]; omega
    · obtain rfl : j = l.length := by omega
      clear hlt
      have hl := HL.out
      rw [List.take_length] at hl
      have HL0 := Lib.hid hl
      clear hl
      go_wp2
      go_ret
      exact ⟨_, _, rfl, HL0.out, HF.out, HB.out⟩
end Go.Proofs.YtenggngcigkakaaGreatDoor
