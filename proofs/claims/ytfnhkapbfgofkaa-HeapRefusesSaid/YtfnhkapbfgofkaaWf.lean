/- The contracts of the program's Store with its closure. -/
import Derived.Test.YtfnhkapbfgofkaaWd
namespace Go.Proofs.Ytfnhkapbfgofkaa
open Go.RowKit

def StoP (b p t Bw : Nat) (H : Hp) (r : Rf) (i : Int) (v : Rf) (w w' : World) : Prop := HW w' b p t (H.stored r i v) ∧ Bk w' Bw 34 (rfc (H.sR r i v)) ∧ Kept (fun z => z = p ∨ z = Bw) w w'
set_option maxHeartbeats 4000000 in
theorem store1_get (Bi Bh Bv Bw b p t k : Nat) (H : Hp) (g i : Int) (v : Rf) (W : World) (h : HW W b p t H) (hk : k < H.t.n) (hs : H.t.s k = 1) (hr : H.chk ((k : Int), g) = 0) (hi : -9223372036854775808 ≤ i ∧ i ≤ 9223372036854775807) (hI : Bk W Bi 3 #[.int .i64 i]) (hW : Bk W Bw 34 (rfc (0, 0)))
    (hg : (getR (H.o k) i).2 ≠ 0) :
    Calls Try.prog 48 #[.pointer (some ⟨p, 1 + k * 10, none⟩), .pointer (some ⟨Bi, 0, none⟩), .pointer (some ⟨Bh, 0, none⟩), .pointer (some ⟨Bv, 0, none⟩), .pointer (some ⟨Bw, 0, none⟩)] W fun e w' => e = .returned (.int .i64 (H.sE ((k : Int), g) i v)) ∧ Hid (StoP b p t Bw H ((k : Int), g) i v W w') := by
  have hp := h.ok.o k hk hs
  have hat : H.at_ ((k : Int), g) = H.o k := by unfold Hp.at_; rw [show ((k : Int), g).1.toNat = k from Int.toNat_natCast k]
  have h3 := get_three hp hg
  have hE : H.sE ((k : Int), g) i v = 3 := by unfold Hp.sE; rw [if_pos hr, hat, if_neg hg, h3]
  have hne : (3 : Int) ≠ 0 := by decide
  have hF : Hid (∀ W', Below W.heap.size W W' → StoP b p t Bw H ((k : Int), g) i v W W') := fun W' hb => by
    have e1 : H.stored ((k : Int), g) i v = H := by unfold Hp.stored; rw [if_neg (by rw [hE]; exact hne)]
    have e2 : H.sR ((k : Int), g) i v = (0, 0) := by unfold Hp.sR; rw [if_neg (by rw [hE]; exact hne)]
    unfold StoP
    rw [e1, e2]
    exact ⟨h.below hb, hW.below hb, Kept.of_below hb⟩
  rw [hE]
  have GT := Lib.hid (fun W => get_at (H.o k) hp.rg i hi _ _ h3 W)
  have HT := Lib.hid (h.ten hk hs)
  have hI0 : W.cell? ⟨Bi, 0, none⟩ = some (.int .i64 i) := hI.cell 0
  generalize H.o k = o at *
  clear h hk hs hr hI hW hg hp hat h3 hE hi hne
  have K0 : Hid (∀ X, Below W.heap.size W X → Below W.heap.size W X ∧ X.cell? ⟨Bi, 0, none⟩ = some (.int .i64 i) ∧ X.cell? ⟨p, 1 + k * 10, none⟩ = some (.int .i64 o.n) ∧ X.cell? ⟨p, 1 + k * 10 + 1, none⟩ = some (.int .i64 o.a.1) ∧ X.cell? ⟨p, 1 + k * 10 + 2, none⟩ = some (.int .u32 o.a.2) ∧ X.cell? ⟨p, 1 + k * 10 + 3, none⟩ = some (.int .i64 o.b.1) ∧ X.cell? ⟨p, 1 + k * 10 + 4, none⟩ = some (.int .u32 o.b.2) ∧ X.cell? ⟨p, 1 + k * 10 + 5, none⟩ = some (.int .i64 o.c.1) ∧ X.cell? ⟨p, 1 + k * 10 + 6, none⟩ = some (.int .u32 o.c.2) ∧ X.cell? ⟨p, 1 + k * 10 + 7, none⟩ = some (.int .i64 o.d.1) ∧ X.cell? ⟨p, 1 + k * 10 + 8, none⟩ = some (.int .u32 o.d.2) ∧ X.cell? ⟨p, 1 + k * 10 + 9, none⟩ = some (.bool o.h)) := fun X hb => ⟨hb, cell_stays hb hI0, HT.out.below hb⟩
  have KA : Hid (∀ (X : World) (o' : Obj), (Below W.heap.size W X ∧ X.cell? ⟨Bi, 0, none⟩ = some (.int .i64 i) ∧ X.cell? ⟨p, 1 + k * 10, none⟩ = some (.int .i64 o.n) ∧ X.cell? ⟨p, 1 + k * 10 + 1, none⟩ = some (.int .i64 o.a.1) ∧ X.cell? ⟨p, 1 + k * 10 + 2, none⟩ = some (.int .u32 o.a.2) ∧ X.cell? ⟨p, 1 + k * 10 + 3, none⟩ = some (.int .i64 o.b.1) ∧ X.cell? ⟨p, 1 + k * 10 + 4, none⟩ = some (.int .u32 o.b.2) ∧ X.cell? ⟨p, 1 + k * 10 + 5, none⟩ = some (.int .i64 o.c.1) ∧ X.cell? ⟨p, 1 + k * 10 + 6, none⟩ = some (.int .u32 o.c.2) ∧ X.cell? ⟨p, 1 + k * 10 + 7, none⟩ = some (.int .i64 o.d.1) ∧ X.cell? ⟨p, 1 + k * 10 + 8, none⟩ = some (.int .u32 o.d.2) ∧ X.cell? ⟨p, 1 + k * 10 + 9, none⟩ = some (.bool o.h)) → Below W.heap.size W (X.alloc o')) := fun X o' h => h.1.alloc h.1.size o'
  have KS : Hid (∀ (X : World) (c : Nat) (u v : Value), W.heap.size ≤ c → (Below W.heap.size W X ∧ X.cell? ⟨Bi, 0, none⟩ = some (.int .i64 i) ∧ X.cell? ⟨p, 1 + k * 10, none⟩ = some (.int .i64 o.n) ∧ X.cell? ⟨p, 1 + k * 10 + 1, none⟩ = some (.int .i64 o.a.1) ∧ X.cell? ⟨p, 1 + k * 10 + 2, none⟩ = some (.int .u32 o.a.2) ∧ X.cell? ⟨p, 1 + k * 10 + 3, none⟩ = some (.int .i64 o.b.1) ∧ X.cell? ⟨p, 1 + k * 10 + 4, none⟩ = some (.int .u32 o.b.2) ∧ X.cell? ⟨p, 1 + k * 10 + 5, none⟩ = some (.int .i64 o.c.1) ∧ X.cell? ⟨p, 1 + k * 10 + 6, none⟩ = some (.int .u32 o.c.2) ∧ X.cell? ⟨p, 1 + k * 10 + 7, none⟩ = some (.int .i64 o.d.1) ∧ X.cell? ⟨p, 1 + k * 10 + 8, none⟩ = some (.int .u32 o.d.2) ∧ X.cell? ⟨p, 1 + k * 10 + 9, none⟩ = some (.bool o.h)) → Below W.heap.size W ((X.setCell ⟨c, 0, none⟩ u).setCell ⟨c, 1, none⟩ v)) := fun X c u v hq h => (h.1.setCell (p := ⟨c, 0, none⟩) hq u).setCell (p := ⟨c, 1, none⟩) hq v
  have KC : Hid (∀ (X Y : World), (Below W.heap.size W X ∧ X.cell? ⟨Bi, 0, none⟩ = some (.int .i64 i) ∧ X.cell? ⟨p, 1 + k * 10, none⟩ = some (.int .i64 o.n) ∧ X.cell? ⟨p, 1 + k * 10 + 1, none⟩ = some (.int .i64 o.a.1) ∧ X.cell? ⟨p, 1 + k * 10 + 2, none⟩ = some (.int .u32 o.a.2) ∧ X.cell? ⟨p, 1 + k * 10 + 3, none⟩ = some (.int .i64 o.b.1) ∧ X.cell? ⟨p, 1 + k * 10 + 4, none⟩ = some (.int .u32 o.b.2) ∧ X.cell? ⟨p, 1 + k * 10 + 5, none⟩ = some (.int .i64 o.c.1) ∧ X.cell? ⟨p, 1 + k * 10 + 6, none⟩ = some (.int .u32 o.c.2) ∧ X.cell? ⟨p, 1 + k * 10 + 7, none⟩ = some (.int .i64 o.d.1) ∧ X.cell? ⟨p, 1 + k * 10 + 8, none⟩ = some (.int .u32 o.d.2) ∧ X.cell? ⟨p, 1 + k * 10 + 9, none⟩ = some (.bool o.h)) → Below X.heap.size X Y → Below W.heap.size W Y) := fun X Y h hb => bel2 h.1 hb
  have KL : Hid (∀ X : World, (Below W.heap.size W X ∧ X.cell? ⟨Bi, 0, none⟩ = some (.int .i64 i) ∧ X.cell? ⟨p, 1 + k * 10, none⟩ = some (.int .i64 o.n) ∧ X.cell? ⟨p, 1 + k * 10 + 1, none⟩ = some (.int .i64 o.a.1) ∧ X.cell? ⟨p, 1 + k * 10 + 2, none⟩ = some (.int .u32 o.a.2) ∧ X.cell? ⟨p, 1 + k * 10 + 3, none⟩ = some (.int .i64 o.b.1) ∧ X.cell? ⟨p, 1 + k * 10 + 4, none⟩ = some (.int .u32 o.b.2) ∧ X.cell? ⟨p, 1 + k * 10 + 5, none⟩ = some (.int .i64 o.c.1) ∧ X.cell? ⟨p, 1 + k * 10 + 6, none⟩ = some (.int .u32 o.c.2) ∧ X.cell? ⟨p, 1 + k * 10 + 7, none⟩ = some (.int .i64 o.d.1) ∧ X.cell? ⟨p, 1 + k * 10 + 8, none⟩ = some (.int .u32 o.d.2) ∧ X.cell? ⟨p, 1 + k * 10 + 9, none⟩ = some (.bool o.h)) → Below W.heap.size W X) := fun X h => h.1
  obtain ⟨c0, c1, c2, c3, c4, c5, c6, c7, c8, c9⟩ := HT.out
  go_enter Try.func48, Try.ntmps48
  go_upto_region 1 with fail
  go_region_held3 (fun X => Below W.heap.size W X ∧ X.cell? ⟨Bi, 0, none⟩ = some (.int .i64 i) ∧ X.cell? ⟨p, 1 + k * 10, none⟩ = some (.int .i64 o.n) ∧ X.cell? ⟨p, 1 + k * 10 + 1, none⟩ = some (.int .i64 o.a.1) ∧ X.cell? ⟨p, 1 + k * 10 + 2, none⟩ = some (.int .u32 o.a.2) ∧ X.cell? ⟨p, 1 + k * 10 + 3, none⟩ = some (.int .i64 o.b.1) ∧ X.cell? ⟨p, 1 + k * 10 + 4, none⟩ = some (.int .u32 o.b.2) ∧ X.cell? ⟨p, 1 + k * 10 + 5, none⟩ = some (.int .i64 o.c.1) ∧ X.cell? ⟨p, 1 + k * 10 + 6, none⟩ = some (.int .u32 o.c.2) ∧ X.cell? ⟨p, 1 + k * 10 + 7, none⟩ = some (.int .i64 o.d.1) ∧ X.cell? ⟨p, 1 + k * 10 + 8, none⟩ = some (.int .u32 o.d.2) ∧ X.cell? ⟨p, 1 + k * 10 + 9, none⟩ = some (.bool o.h)) (first | (with_reducible assumption) | (exact K0.out _ (bel_dr W)) | (exact K0.out _ (bel_drew (bel_new W _))) | (refine K0.out _ (KA.out _ _ ?_); assumption) | (refine K0.out _ (KS.out _ _ _ _ ?_ ?_); (first | exact Nat.le_refl _ | exact Below.size (by assumption) | omega); assumption)) (first
    | (go_at_call 45; refine (GT.out _).mono ?_; rintro e w5 ⟨rfl, hb0⟩; have HB5 := KC.out _ _ (by assumption) hb0; have hz1 := K0.out _ HB5; try (have hq : Bk w5 W.heap.size 34 (rfc (0, 0)) := (show Bk (W.alloc (.cells (rfc (0, 0)) 34)).drew W.heap.size 34 (rfc (0, 0)) from Bk.new W _ _).below hb0; have hn := hq.rf; have hm := hq.rfz; simp only at hn hm; obtain ⟨n0, n1⟩ := hn; obtain ⟨m0, m1⟩ := hm; clear hq)))
  all_goals
    go_wp2
    go_ret
    exact ⟨rfl, hF.out _ (KL.out _ (by assumption))⟩
set_option maxHeartbeats 4000000 in
theorem store1_bad (Bi Bh Bv Bw b p t k : Nat) (H : Hp) (g i : Int) (v : Rf) (W : World) (h : HW W b p t H) (hk : k < H.t.n) (hs : H.t.s k = 1) (hr : H.chk ((k : Int), g) = 0) (hi : -9223372036854775808 ≤ i ∧ i ≤ 9223372036854775807) (hI : Bk W Bi 3 #[.int .i64 i]) (hW : Bk W Bw 34 (rfc (0, 0))) (hH : Bk W Bh 25 #[.pointer (some ⟨b, 0, none⟩)]) (hV : Bk W Bv 34 (rfc v))
    (hg : (getR (H.o k) i).2 = 0) (hv : H.vE v ≠ 0) :
    Calls Try.prog 48 #[.pointer (some ⟨p, 1 + k * 10, none⟩), .pointer (some ⟨Bi, 0, none⟩), .pointer (some ⟨Bh, 0, none⟩), .pointer (some ⟨Bv, 0, none⟩), .pointer (some ⟨Bw, 0, none⟩)] W fun e w' => e = .returned (.int .i64 (H.sE ((k : Int), g) i v)) ∧ Hid (StoP b p t Bw H ((k : Int), g) i v W w') := by
  have hp := h.ok.o k hk hs
  have hat : H.at_ ((k : Int), g) = H.o k := by unfold Hp.at_; rw [show ((k : Int), g).1.toNat = k from Int.toNat_natCast k]
  obtain ⟨_, _, _, hgr⟩ := get_zero hg
  have hE : H.sE ((k : Int), g) i v = H.vE v := by unfold Hp.sE; rw [if_pos hr, hat, if_pos hg]
  have hne := hv
  have hF : Hid (∀ W', Below W.heap.size W W' → StoP b p t Bw H ((k : Int), g) i v W W') := fun W' hb => by
    have e1 : H.stored ((k : Int), g) i v = H := by unfold Hp.stored; rw [if_neg (by rw [hE]; exact hne)]
    have e2 : H.sR ((k : Int), g) i v = (0, 0) := by unfold Hp.sR; rw [if_neg (by rw [hE]; exact hne)]
    unfold StoP
    rw [e1, e2]
    exact ⟨h.below hb, hW.below hb, Kept.of_below hb⟩
  rw [hE]
  have GT := Lib.hid (fun W => get_at (H.o k) hp.rg i hi _ _ hgr W)
  have VB : Hid (∀ X, Below W.heap.size W X → X.cell? ⟨Bh, 0, none⟩ = some (.pointer (some ⟨b, 0, none⟩)) ∧ X.cell? ⟨Bv, 0, none⟩ = some (.int .i64 v.1) ∧ X.cell? ⟨Bv, 1, none⟩ = some (.int .u32 v.2)) := fun X hb => ⟨(hH.below hb).cell 0, (hV.below hb).cell 0, (hV.below hb).cell 1⟩
  have ST : Hid (∀ X, Below W.heap.size W X → Calls Try.prog 49 #[.pointer (some ⟨b, 0, none⟩), .agg #[.int .i64 v.1, .int .u32 v.2]] X fun e w' => e = .returned (.int .i64 (H.vE v)) ∧ Below X.heap.size X w') := fun X hb => storable_ok b p t H v X (h.below hb)
  have HT := Lib.hid (h.ten hk hs)
  have hI0 : W.cell? ⟨Bi, 0, none⟩ = some (.int .i64 i) := hI.cell 0
  have hne2 : (H.vE v != 0) = true := by simpa using hv
  generalize H.vE v = E at *
  generalize H.o k = o at *
  clear h hk hs hr hI hW hH hV hg hp hat hgr hE hi hne hv
  have K0 : Hid (∀ X, Below W.heap.size W X → Below W.heap.size W X ∧ X.cell? ⟨Bi, 0, none⟩ = some (.int .i64 i) ∧ X.cell? ⟨p, 1 + k * 10, none⟩ = some (.int .i64 o.n) ∧ X.cell? ⟨p, 1 + k * 10 + 1, none⟩ = some (.int .i64 o.a.1) ∧ X.cell? ⟨p, 1 + k * 10 + 2, none⟩ = some (.int .u32 o.a.2) ∧ X.cell? ⟨p, 1 + k * 10 + 3, none⟩ = some (.int .i64 o.b.1) ∧ X.cell? ⟨p, 1 + k * 10 + 4, none⟩ = some (.int .u32 o.b.2) ∧ X.cell? ⟨p, 1 + k * 10 + 5, none⟩ = some (.int .i64 o.c.1) ∧ X.cell? ⟨p, 1 + k * 10 + 6, none⟩ = some (.int .u32 o.c.2) ∧ X.cell? ⟨p, 1 + k * 10 + 7, none⟩ = some (.int .i64 o.d.1) ∧ X.cell? ⟨p, 1 + k * 10 + 8, none⟩ = some (.int .u32 o.d.2) ∧ X.cell? ⟨p, 1 + k * 10 + 9, none⟩ = some (.bool o.h)) := fun X hb => ⟨hb, cell_stays hb hI0, HT.out.below hb⟩
  have KA : Hid (∀ (X : World) (o' : Obj), (Below W.heap.size W X ∧ X.cell? ⟨Bi, 0, none⟩ = some (.int .i64 i) ∧ X.cell? ⟨p, 1 + k * 10, none⟩ = some (.int .i64 o.n) ∧ X.cell? ⟨p, 1 + k * 10 + 1, none⟩ = some (.int .i64 o.a.1) ∧ X.cell? ⟨p, 1 + k * 10 + 2, none⟩ = some (.int .u32 o.a.2) ∧ X.cell? ⟨p, 1 + k * 10 + 3, none⟩ = some (.int .i64 o.b.1) ∧ X.cell? ⟨p, 1 + k * 10 + 4, none⟩ = some (.int .u32 o.b.2) ∧ X.cell? ⟨p, 1 + k * 10 + 5, none⟩ = some (.int .i64 o.c.1) ∧ X.cell? ⟨p, 1 + k * 10 + 6, none⟩ = some (.int .u32 o.c.2) ∧ X.cell? ⟨p, 1 + k * 10 + 7, none⟩ = some (.int .i64 o.d.1) ∧ X.cell? ⟨p, 1 + k * 10 + 8, none⟩ = some (.int .u32 o.d.2) ∧ X.cell? ⟨p, 1 + k * 10 + 9, none⟩ = some (.bool o.h)) → Below W.heap.size W (X.alloc o')) := fun X o' h => h.1.alloc h.1.size o'
  have KS : Hid (∀ (X : World) (c : Nat) (u v : Value), W.heap.size ≤ c → (Below W.heap.size W X ∧ X.cell? ⟨Bi, 0, none⟩ = some (.int .i64 i) ∧ X.cell? ⟨p, 1 + k * 10, none⟩ = some (.int .i64 o.n) ∧ X.cell? ⟨p, 1 + k * 10 + 1, none⟩ = some (.int .i64 o.a.1) ∧ X.cell? ⟨p, 1 + k * 10 + 2, none⟩ = some (.int .u32 o.a.2) ∧ X.cell? ⟨p, 1 + k * 10 + 3, none⟩ = some (.int .i64 o.b.1) ∧ X.cell? ⟨p, 1 + k * 10 + 4, none⟩ = some (.int .u32 o.b.2) ∧ X.cell? ⟨p, 1 + k * 10 + 5, none⟩ = some (.int .i64 o.c.1) ∧ X.cell? ⟨p, 1 + k * 10 + 6, none⟩ = some (.int .u32 o.c.2) ∧ X.cell? ⟨p, 1 + k * 10 + 7, none⟩ = some (.int .i64 o.d.1) ∧ X.cell? ⟨p, 1 + k * 10 + 8, none⟩ = some (.int .u32 o.d.2) ∧ X.cell? ⟨p, 1 + k * 10 + 9, none⟩ = some (.bool o.h)) → Below W.heap.size W ((X.setCell ⟨c, 0, none⟩ u).setCell ⟨c, 1, none⟩ v)) := fun X c u v hq h => (h.1.setCell (p := ⟨c, 0, none⟩) hq u).setCell (p := ⟨c, 1, none⟩) hq v
  have KC : Hid (∀ (X Y : World), (Below W.heap.size W X ∧ X.cell? ⟨Bi, 0, none⟩ = some (.int .i64 i) ∧ X.cell? ⟨p, 1 + k * 10, none⟩ = some (.int .i64 o.n) ∧ X.cell? ⟨p, 1 + k * 10 + 1, none⟩ = some (.int .i64 o.a.1) ∧ X.cell? ⟨p, 1 + k * 10 + 2, none⟩ = some (.int .u32 o.a.2) ∧ X.cell? ⟨p, 1 + k * 10 + 3, none⟩ = some (.int .i64 o.b.1) ∧ X.cell? ⟨p, 1 + k * 10 + 4, none⟩ = some (.int .u32 o.b.2) ∧ X.cell? ⟨p, 1 + k * 10 + 5, none⟩ = some (.int .i64 o.c.1) ∧ X.cell? ⟨p, 1 + k * 10 + 6, none⟩ = some (.int .u32 o.c.2) ∧ X.cell? ⟨p, 1 + k * 10 + 7, none⟩ = some (.int .i64 o.d.1) ∧ X.cell? ⟨p, 1 + k * 10 + 8, none⟩ = some (.int .u32 o.d.2) ∧ X.cell? ⟨p, 1 + k * 10 + 9, none⟩ = some (.bool o.h)) → Below X.heap.size X Y → Below W.heap.size W Y) := fun X Y h hb => bel2 h.1 hb
  have KL : Hid (∀ X : World, (Below W.heap.size W X ∧ X.cell? ⟨Bi, 0, none⟩ = some (.int .i64 i) ∧ X.cell? ⟨p, 1 + k * 10, none⟩ = some (.int .i64 o.n) ∧ X.cell? ⟨p, 1 + k * 10 + 1, none⟩ = some (.int .i64 o.a.1) ∧ X.cell? ⟨p, 1 + k * 10 + 2, none⟩ = some (.int .u32 o.a.2) ∧ X.cell? ⟨p, 1 + k * 10 + 3, none⟩ = some (.int .i64 o.b.1) ∧ X.cell? ⟨p, 1 + k * 10 + 4, none⟩ = some (.int .u32 o.b.2) ∧ X.cell? ⟨p, 1 + k * 10 + 5, none⟩ = some (.int .i64 o.c.1) ∧ X.cell? ⟨p, 1 + k * 10 + 6, none⟩ = some (.int .u32 o.c.2) ∧ X.cell? ⟨p, 1 + k * 10 + 7, none⟩ = some (.int .i64 o.d.1) ∧ X.cell? ⟨p, 1 + k * 10 + 8, none⟩ = some (.int .u32 o.d.2) ∧ X.cell? ⟨p, 1 + k * 10 + 9, none⟩ = some (.bool o.h)) → Below W.heap.size W X) := fun X h => h.1
  obtain ⟨c0, c1, c2, c3, c4, c5, c6, c7, c8, c9⟩ := HT.out
  generalize o.fld i.toNat = fl at *
  go_enter Try.func48, Try.ntmps48
  go_upto_region 1 with fail
  go_region_held3 (fun X => Below W.heap.size W X ∧ X.cell? ⟨Bi, 0, none⟩ = some (.int .i64 i) ∧ X.cell? ⟨p, 1 + k * 10, none⟩ = some (.int .i64 o.n) ∧ X.cell? ⟨p, 1 + k * 10 + 1, none⟩ = some (.int .i64 o.a.1) ∧ X.cell? ⟨p, 1 + k * 10 + 2, none⟩ = some (.int .u32 o.a.2) ∧ X.cell? ⟨p, 1 + k * 10 + 3, none⟩ = some (.int .i64 o.b.1) ∧ X.cell? ⟨p, 1 + k * 10 + 4, none⟩ = some (.int .u32 o.b.2) ∧ X.cell? ⟨p, 1 + k * 10 + 5, none⟩ = some (.int .i64 o.c.1) ∧ X.cell? ⟨p, 1 + k * 10 + 6, none⟩ = some (.int .u32 o.c.2) ∧ X.cell? ⟨p, 1 + k * 10 + 7, none⟩ = some (.int .i64 o.d.1) ∧ X.cell? ⟨p, 1 + k * 10 + 8, none⟩ = some (.int .u32 o.d.2) ∧ X.cell? ⟨p, 1 + k * 10 + 9, none⟩ = some (.bool o.h)) (first | (with_reducible assumption) | (exact K0.out _ (bel_dr W)) | (exact K0.out _ (bel_drew (bel_new W _))) | (refine K0.out _ (KA.out _ _ ?_); assumption) | (refine K0.out _ (KS.out _ _ _ _ ?_ ?_); (first | exact Nat.le_refl _ | exact Below.size (by assumption) | omega); assumption)) (first
    | (go_at_call 45; refine (GT.out _).mono ?_; rintro e w5 ⟨rfl, hb0⟩; have HB5 := KC.out _ _ (by assumption) hb0; have hz1 := K0.out _ HB5; try (have hq : Bk w5 W.heap.size 34 (rfc (0, 0)) := (show Bk (W.alloc (.cells (rfc (0, 0)) 34)).drew W.heap.size 34 (rfc (0, 0)) from Bk.new W _ _).below hb0; have hn := hq.rf; have hm := hq.rfz; simp only at hn hm; obtain ⟨n0, n1⟩ := hn; obtain ⟨m0, m1⟩ := hm; clear hq)))
  all_goals
    have hzb := KL.out _ (by assumption)
    obtain ⟨d0, d1, d2⟩ := VB.out _ hzb
    go_wp2_with (go_at_call 49; refine (ST.out _ hzb).mono ?_; rintro e w6 ⟨rfl, hb6⟩; have HB6 := Lib.hid (bel2 hzb hb6); clear hb6)
    go_ret
    exact ⟨rfl, hF.out _ HB6.out⟩
/-- What stands behind the two stores. -/
theorem sto_fin {b p t k Bw : Nat} {H : Hp} {g i : Int} {v : Rf} {W w7 : World} (h : HW W b p t H) (hk : k < H.t.n) (hr : H.chk ((k : Int), g) = 0) (hat : H.at_ ((k : Int), g) = H.o k) (hg : (getR (H.o k) i).2 = 0) (hv : H.vE v = 0) (hW : Bk W Bw 34 (rfc (0, 0))) (hb : Below W.heap.size W w7) :
    StoP b p t Bw H ((k : Int), g) i v W (((put10 w7 p (1 + k * 10) ((H.o k).upd v i.toNat)).setCell ⟨Bw, 0, none⟩ (.int .i64 ((H.o k).fld i.toNat).1)).setCell ⟨Bw, 1, none⟩ (.int .u32 ((H.o k).fld i.toNat).2)) := by
  have hE : H.sE ((k : Int), g) i v = 0 := by unfold Hp.sE; rw [if_pos hr, hat, if_pos hg, hv]
  obtain ⟨_, _, _, hgr⟩ := get_zero hg
  have e1 : H.stored ((k : Int), g) i v = ⟨H.t, putO H.o k ((H.o k).upd v i.toNat)⟩ := by unfold Hp.stored; rw [if_pos hE, hat]; simp
  have e2 : H.sR ((k : Int), g) i v = (H.o k).fld i.toNat := by unfold Hp.sR; rw [if_pos hE, hat, hgr]
  have hok := h.ok.stored ((k : Int), g) i v
  have hn := h.ok.t.hi
  have h7 := h.below hb
  have hW7 := hW.below hb
  have hBp : Bw ≠ p := by obtain ⟨O, h1, _⟩ := h.at_; rintro rfl; exact absurd (hW.uniq h1).1 (by decide)
  have hBox := h.box hW (by decide) (by decide) (by decide)
  unfold StoP
  rw [e1] at hok ⊢
  rw [e2]
  have p1 : HW (put10 w7 p (1 + k * 10) ((H.o k).upd v i.toNat)) b p t ⟨H.t, putO H.o k ((H.o k).upd v i.toNat)⟩ := h7.put (by omega) _ hok rfl (fun _ _ _ => rfl)
  have k1 : Kept (· = p) w7 (put10 w7 p (1 + k * 10) ((H.o k).upd v i.toNat)) := kept_put10 (Kept.refl (fun g => g = p) w7) (.inr rfl) _ _
  generalize put10 w7 p (1 + k * 10) ((H.o k).upd v i.toNat) = w8 at *
  have b8 := hW7.kept k1 hBp
  have k2 : Kept (· = Bw) w8 ((w8.setCell ⟨Bw, 0, none⟩ (.int .i64 ((H.o k).fld i.toNat).1)).setCell ⟨Bw, 1, none⟩ (.int .u32 ((H.o k).fld i.toNat).2)) := ((Kept.refl _ w8).put1 0 _).put1 1 _
  refine ⟨p1.kept k2 fun z hz e => hBox (by rw [← e]; exact hz), (b8.put 0 _).put 1 _, ((Kept.of_below hb).trans (k1.mono fun z _ e => .inl e)).trans (k2.mono fun z _ e => .inr e)⟩
set_option maxHeartbeats 4000000 in
theorem store1_good (Bi Bh Bv Bw b p t k : Nat) (H : Hp) (g i : Int) (v : Rf) (W : World) (h : HW W b p t H) (hk : k < H.t.n) (hs : H.t.s k = 1) (hr : H.chk ((k : Int), g) = 0) (hi : -9223372036854775808 ≤ i ∧ i ≤ 9223372036854775807) (hI : Bk W Bi 3 #[.int .i64 i]) (hW : Bk W Bw 34 (rfc (0, 0))) (hH : Bk W Bh 25 #[.pointer (some ⟨b, 0, none⟩)]) (hV : Bk W Bv 34 (rfc v))
    (hg : (getR (H.o k) i).2 = 0) (hv : H.vE v = 0) (hrr : Rr v) :
    Calls Try.prog 48 #[.pointer (some ⟨p, 1 + k * 10, none⟩), .pointer (some ⟨Bi, 0, none⟩), .pointer (some ⟨Bh, 0, none⟩), .pointer (some ⟨Bv, 0, none⟩), .pointer (some ⟨Bw, 0, none⟩)] W fun e w' => e = .returned (.int .i64 (H.sE ((k : Int), g) i v)) ∧ Hid (StoP b p t Bw H ((k : Int), g) i v W w') := by
  have hp := h.ok.o k hk hs
  have hat : H.at_ ((k : Int), g) = H.o k := by unfold Hp.at_; rw [show ((k : Int), g).1.toNat = k from Int.toNat_natCast k]
  obtain ⟨_, hi0, hi1, hgr⟩ := get_zero hg
  have hE : H.sE ((k : Int), g) i v = 0 := by unfold Hp.sE; rw [if_pos hr, hat, if_pos hg, hv]
  have hset := set_ok hp (h.ok.v_ok hv) ⟨hi0, hi1⟩
  have FI : Hid (∀ w7, Below W.heap.size W w7 → _) := Lib.hid (fun w7 hb => sto_fin (w7 := w7) h hk hr hat hg hv hW hb)
  rw [hE]
  have GT := Lib.hid (fun W => get_at (H.o k) hp.rg i hi _ _ hgr W)
  have SE := Lib.hid (fun W => set_any (H.o k) hp.rg i hi v hrr W)
  rw [hset] at SE
  have VB : Hid (∀ X, Below W.heap.size W X → X.cell? ⟨Bh, 0, none⟩ = some (.pointer (some ⟨b, 0, none⟩)) ∧ X.cell? ⟨Bv, 0, none⟩ = some (.int .i64 v.1) ∧ X.cell? ⟨Bv, 1, none⟩ = some (.int .u32 v.2) ∧ X.cell? ⟨Bw, 0, none⟩ = some (.int .i64 0) ∧ X.cell? ⟨Bw, 1, none⟩ = some (.int .u32 0) ∧ (∀ j, X.frozen? ⟨Bw, j, none⟩ = false) ∧ (∀ j, X.frozen? ⟨p, j, none⟩ = false)) := fun X hb => ⟨(hH.below hb).cell 0, (hV.below hb).cell 0, (hV.below hb).cell 1, (hW.below hb).cell 0, (hW.below hb).cell 1, (hW.below hb).frozen, (h.below hb).at_.elim fun _ h => h.1.frozen⟩
  have ST : Hid (∀ X, Below W.heap.size W X → Calls Try.prog 49 #[.pointer (some ⟨b, 0, none⟩), .agg #[.int .i64 v.1, .int .u32 v.2]] X fun e w' => e = .returned (.int .i64 (H.vE v)) ∧ Below X.heap.size X w') := fun X hb => storable_ok b p t H v X (h.below hb)
  have HT := Lib.hid (h.ten hk hs)
  have hI0 : W.cell? ⟨Bi, 0, none⟩ = some (.int .i64 i) := hI.cell 0
  have hBwp : Bw ≠ p := by obtain ⟨O, h1, _⟩ := h.at_; rintro rfl; exact absurd (hW.uniq h1).1 (by decide)
  have hBwp2 : p ≠ Bw := fun e => hBwp e.symm
  rw [hv] at ST
  generalize H.o k = o at *
  simp only [obv, obc, rfv, rfc] at SE
  clear h hk hs hr hI hW hH hV hg hp hat hE hi hv hrr hset hi0 hi1 hgr
  have K0 : Hid (∀ X, Below W.heap.size W X → Below W.heap.size W X ∧ X.cell? ⟨Bi, 0, none⟩ = some (.int .i64 i) ∧ X.cell? ⟨p, 1 + k * 10, none⟩ = some (.int .i64 o.n) ∧ X.cell? ⟨p, 1 + k * 10 + 1, none⟩ = some (.int .i64 o.a.1) ∧ X.cell? ⟨p, 1 + k * 10 + 2, none⟩ = some (.int .u32 o.a.2) ∧ X.cell? ⟨p, 1 + k * 10 + 3, none⟩ = some (.int .i64 o.b.1) ∧ X.cell? ⟨p, 1 + k * 10 + 4, none⟩ = some (.int .u32 o.b.2) ∧ X.cell? ⟨p, 1 + k * 10 + 5, none⟩ = some (.int .i64 o.c.1) ∧ X.cell? ⟨p, 1 + k * 10 + 6, none⟩ = some (.int .u32 o.c.2) ∧ X.cell? ⟨p, 1 + k * 10 + 7, none⟩ = some (.int .i64 o.d.1) ∧ X.cell? ⟨p, 1 + k * 10 + 8, none⟩ = some (.int .u32 o.d.2) ∧ X.cell? ⟨p, 1 + k * 10 + 9, none⟩ = some (.bool o.h)) := fun X hb => ⟨hb, cell_stays hb hI0, HT.out.below hb⟩
  have KA : Hid (∀ (X : World) (o' : Obj), (Below W.heap.size W X ∧ X.cell? ⟨Bi, 0, none⟩ = some (.int .i64 i) ∧ X.cell? ⟨p, 1 + k * 10, none⟩ = some (.int .i64 o.n) ∧ X.cell? ⟨p, 1 + k * 10 + 1, none⟩ = some (.int .i64 o.a.1) ∧ X.cell? ⟨p, 1 + k * 10 + 2, none⟩ = some (.int .u32 o.a.2) ∧ X.cell? ⟨p, 1 + k * 10 + 3, none⟩ = some (.int .i64 o.b.1) ∧ X.cell? ⟨p, 1 + k * 10 + 4, none⟩ = some (.int .u32 o.b.2) ∧ X.cell? ⟨p, 1 + k * 10 + 5, none⟩ = some (.int .i64 o.c.1) ∧ X.cell? ⟨p, 1 + k * 10 + 6, none⟩ = some (.int .u32 o.c.2) ∧ X.cell? ⟨p, 1 + k * 10 + 7, none⟩ = some (.int .i64 o.d.1) ∧ X.cell? ⟨p, 1 + k * 10 + 8, none⟩ = some (.int .u32 o.d.2) ∧ X.cell? ⟨p, 1 + k * 10 + 9, none⟩ = some (.bool o.h)) → Below W.heap.size W (X.alloc o')) := fun X o' h => h.1.alloc h.1.size o'
  have KS : Hid (∀ (X : World) (c : Nat) (u v : Value), W.heap.size ≤ c → (Below W.heap.size W X ∧ X.cell? ⟨Bi, 0, none⟩ = some (.int .i64 i) ∧ X.cell? ⟨p, 1 + k * 10, none⟩ = some (.int .i64 o.n) ∧ X.cell? ⟨p, 1 + k * 10 + 1, none⟩ = some (.int .i64 o.a.1) ∧ X.cell? ⟨p, 1 + k * 10 + 2, none⟩ = some (.int .u32 o.a.2) ∧ X.cell? ⟨p, 1 + k * 10 + 3, none⟩ = some (.int .i64 o.b.1) ∧ X.cell? ⟨p, 1 + k * 10 + 4, none⟩ = some (.int .u32 o.b.2) ∧ X.cell? ⟨p, 1 + k * 10 + 5, none⟩ = some (.int .i64 o.c.1) ∧ X.cell? ⟨p, 1 + k * 10 + 6, none⟩ = some (.int .u32 o.c.2) ∧ X.cell? ⟨p, 1 + k * 10 + 7, none⟩ = some (.int .i64 o.d.1) ∧ X.cell? ⟨p, 1 + k * 10 + 8, none⟩ = some (.int .u32 o.d.2) ∧ X.cell? ⟨p, 1 + k * 10 + 9, none⟩ = some (.bool o.h)) → Below W.heap.size W ((X.setCell ⟨c, 0, none⟩ u).setCell ⟨c, 1, none⟩ v)) := fun X c u v hq h => (h.1.setCell (p := ⟨c, 0, none⟩) hq u).setCell (p := ⟨c, 1, none⟩) hq v
  have KC : Hid (∀ (X Y : World), (Below W.heap.size W X ∧ X.cell? ⟨Bi, 0, none⟩ = some (.int .i64 i) ∧ X.cell? ⟨p, 1 + k * 10, none⟩ = some (.int .i64 o.n) ∧ X.cell? ⟨p, 1 + k * 10 + 1, none⟩ = some (.int .i64 o.a.1) ∧ X.cell? ⟨p, 1 + k * 10 + 2, none⟩ = some (.int .u32 o.a.2) ∧ X.cell? ⟨p, 1 + k * 10 + 3, none⟩ = some (.int .i64 o.b.1) ∧ X.cell? ⟨p, 1 + k * 10 + 4, none⟩ = some (.int .u32 o.b.2) ∧ X.cell? ⟨p, 1 + k * 10 + 5, none⟩ = some (.int .i64 o.c.1) ∧ X.cell? ⟨p, 1 + k * 10 + 6, none⟩ = some (.int .u32 o.c.2) ∧ X.cell? ⟨p, 1 + k * 10 + 7, none⟩ = some (.int .i64 o.d.1) ∧ X.cell? ⟨p, 1 + k * 10 + 8, none⟩ = some (.int .u32 o.d.2) ∧ X.cell? ⟨p, 1 + k * 10 + 9, none⟩ = some (.bool o.h)) → Below X.heap.size X Y → Below W.heap.size W Y) := fun X Y h hb => bel2 h.1 hb
  have KL : Hid (∀ X : World, (Below W.heap.size W X ∧ X.cell? ⟨Bi, 0, none⟩ = some (.int .i64 i) ∧ X.cell? ⟨p, 1 + k * 10, none⟩ = some (.int .i64 o.n) ∧ X.cell? ⟨p, 1 + k * 10 + 1, none⟩ = some (.int .i64 o.a.1) ∧ X.cell? ⟨p, 1 + k * 10 + 2, none⟩ = some (.int .u32 o.a.2) ∧ X.cell? ⟨p, 1 + k * 10 + 3, none⟩ = some (.int .i64 o.b.1) ∧ X.cell? ⟨p, 1 + k * 10 + 4, none⟩ = some (.int .u32 o.b.2) ∧ X.cell? ⟨p, 1 + k * 10 + 5, none⟩ = some (.int .i64 o.c.1) ∧ X.cell? ⟨p, 1 + k * 10 + 6, none⟩ = some (.int .u32 o.c.2) ∧ X.cell? ⟨p, 1 + k * 10 + 7, none⟩ = some (.int .i64 o.d.1) ∧ X.cell? ⟨p, 1 + k * 10 + 8, none⟩ = some (.int .u32 o.d.2) ∧ X.cell? ⟨p, 1 + k * 10 + 9, none⟩ = some (.bool o.h)) → Below W.heap.size W X) := fun X h => h.1
  obtain ⟨c0, c1, c2, c3, c4, c5, c6, c7, c8, c9⟩ := HT.out
  obtain ⟨o', ho'⟩ : ∃ o', o.upd v i.toNat = o' := ⟨_, rfl⟩
  rw [ho'] at SE FI
  generalize o.fld i.toNat = fl at *
  go_enter Try.func48, Try.ntmps48
  go_upto_region 1 with fail
  go_region_held3 (fun X => Below W.heap.size W X ∧ X.cell? ⟨Bi, 0, none⟩ = some (.int .i64 i) ∧ X.cell? ⟨p, 1 + k * 10, none⟩ = some (.int .i64 o.n) ∧ X.cell? ⟨p, 1 + k * 10 + 1, none⟩ = some (.int .i64 o.a.1) ∧ X.cell? ⟨p, 1 + k * 10 + 2, none⟩ = some (.int .u32 o.a.2) ∧ X.cell? ⟨p, 1 + k * 10 + 3, none⟩ = some (.int .i64 o.b.1) ∧ X.cell? ⟨p, 1 + k * 10 + 4, none⟩ = some (.int .u32 o.b.2) ∧ X.cell? ⟨p, 1 + k * 10 + 5, none⟩ = some (.int .i64 o.c.1) ∧ X.cell? ⟨p, 1 + k * 10 + 6, none⟩ = some (.int .u32 o.c.2) ∧ X.cell? ⟨p, 1 + k * 10 + 7, none⟩ = some (.int .i64 o.d.1) ∧ X.cell? ⟨p, 1 + k * 10 + 8, none⟩ = some (.int .u32 o.d.2) ∧ X.cell? ⟨p, 1 + k * 10 + 9, none⟩ = some (.bool o.h)) (first | (with_reducible assumption) | (exact K0.out _ (bel_dr W)) | (exact K0.out _ (bel_drew (bel_new W _))) | (refine K0.out _ (KA.out _ _ ?_); assumption) | (refine K0.out _ (KS.out _ _ _ _ ?_ ?_); (first | exact Nat.le_refl _ | exact Below.size (by assumption) | omega); assumption)) (first
    | (go_at_call 45; refine (GT.out _).mono ?_; rintro e w5 ⟨rfl, hb0⟩; have HB5 := KC.out _ _ (by assumption) hb0; have hz1 := K0.out _ HB5; try (have hq : Bk w5 W.heap.size 34 (rfc (0, 0)) := (show Bk (W.alloc (.cells (rfc (0, 0)) 34)).drew W.heap.size 34 (rfc (0, 0)) from Bk.new W _ _).below hb0; have hn := hq.rf; have hm := hq.rfz; simp only at hn hm; obtain ⟨n0, n1⟩ := hn; obtain ⟨m0, m1⟩ := hm; clear hq)))
  all_goals
    have hzb := KL.out _ (by assumption)
    obtain ⟨d0, d1, d2, _⟩ := VB.out _ hzb
    go_wp2_with (go_at_call 49; refine (ST.out _ hzb).mono ?_; rintro e w6 ⟨rfl, hb6⟩; have hb66 := bel2 hzb hb6; have HB6 := Lib.hid hb66; obtain ⟨_, i0, q0, q1, q2, q3, q4, q5, q6, q7, q8, q9⟩ := K0.out _ hb66; obtain ⟨y0, y1, y2, _⟩ := VB.out _ hb66; clear hb6 hb66)
    go_region_with (go_at_call 50; refine (SE.out _).mono ?_; rintro e w7 ⟨rfl, hb7⟩; have hb77 := bel2 (bel_drew HB6.out) hb7; have HB7 := Lib.hid hb77; obtain ⟨_, j0, r0, r1, r2, r3, r4, r5, r6, r7, r8, r9⟩ := K0.out _ hb77; obtain ⟨x0, x1, x2, x3, x4, x5, x6⟩ := VB.out _ hb77; have x7 := x6 (1 + k * 10); have x8 := x6 (1 + k * 10 + 1); have x9 := x6 (1 + k * 10 + 2); have x10 := x6 (1 + k * 10 + 3); have x11 := x6 (1 + k * 10 + 4); have x12 := x6 (1 + k * 10 + 5); have x13 := x6 (1 + k * 10 + 6); have x14 := x6 (1 + k * 10 + 7); have x15 := x6 (1 + k * 10 + 8); have x16 := x6 (1 + k * 10 + 9); have x17 := x5 0; have x18 := x5 1; clear hb7 hb77 x5 x6)
    all_goals
      go_wp2
      go_ret
      exact ⟨rfl, FI.out _ HB7.out⟩
end Go.Proofs.Ytfnhkapbfgofkaa
