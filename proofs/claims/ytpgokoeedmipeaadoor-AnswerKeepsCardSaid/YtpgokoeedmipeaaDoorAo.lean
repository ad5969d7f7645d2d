/- The chapter's examples hold (the helper works). -/
import Derived.Test.YtpgokoeedmipeaaDoorAn
namespace Go.Proofs.YtpgokoeedmipeaaDoor
open Go.RowKit

theorem print_to (a : Option Addr) (n c : Nat) {l : List Int} (w : World) (he : Env w) (hr : Rd .i64 w (.slice a n c) l) {T : List UInt8} {E : Nat} (hT : wT l = T) (hE : wE l = E) :
    Calls Tryd.prog 12 #[.slice a n c] w fun e w' => e = .returned (.tuple #[.string ⟨T.toArray⟩, .int .i64 E]) ∧ Below w.heap.size w w' :=
  (print_ok a n c l w he hr).mono fun _ _ ⟨h1, h2⟩ => ⟨by rw [h1, hT, hE], h2⟩
theorem parse_to (s : ByteArray) (w : World) (he : Env w) (h : s.size ≤ 140737488351232) {bs : List UInt8} (hb : s.data.toList = bs) {L : List Int} {E : Nat} (hL : pL bs = L) (hE : pE bs = E) :
    Calls Tryd.prog 13 #[.string s] w fun e w' => ∃ a c, e = .returned (.tuple #[.slice a L.length c, .int .i64 E]) ∧ Sl w' (.slice a L.length c) L ∧ Below w.heap.size w w' :=
  (parse_ok s w he h).mono fun _ _ ⟨v, h1, h2, h3⟩ => by
    rw [hb] at h1 h2
    rw [hE] at h1
    rw [hL] at h2
    obtain ⟨a, c, rfl, h4⟩ := h2.len
    exact ⟨a, c, h1, h4, h3⟩
theorem lit3 (w : World) : Rd .i64 (w.alloc (.cells #[.int .i64 1, .int .i64 2, .int .i64 3] 3)) (.slice (some ⟨w.heap.size, 0, none⟩) 3 3) [1, 2, 3] := by
  refine ⟨_, 3, rfl, by decide, by decide, fun e => (by cases e), fun _ => ⟨w.heap.size, 0, rfl, by simp, fun j x hj => ?_⟩⟩
  have hb := Bk.new w 3 #[.int .i64 1, .int .i64 2, .int .i64 3]
  rw [hb.cell]
  match j, hj with
  | 0, hj => cases hj; rfl
  | 1, hj => cases hj; rfl
  | 2, hj => cases hj; rfl
theorem lit2 (w : World) : Rd .i64 (w.alloc (.cells #[.int .i64 2, .int .i64 3] 3)) (.slice (some ⟨w.heap.size, 0, none⟩) 2 2) [2, 3] := by
  refine ⟨_, 2, rfl, by decide, by decide, fun e => (by cases e), fun _ => ⟨w.heap.size, 0, rfl, by simp, fun j x hj => ?_⟩⟩
  have hb := Bk.new w 3 #[.int .i64 2, .int .i64 3]
  rw [hb.cell]
  match j, hj with
  | 0, hj => cases hj; rfl
  | 1, hj => cases hj; rfl

set_option maxRecDepth 100000 in
set_option maxHeartbeats 8000000 in
theorem works_ok (w : World) (he : Env w) : Calls Tryd.prog 4 #[] w fun e w' => e = .returned (.bool true) ∧ Below w.heap.size w w' := by
  have HE := Lib.hid he
  clear he
  go_enter Tryd.func4, Tryd.ntmps4
  go_wp2_with fail
  refine (St.new HE.out).mono ?_
  rintro e w1 ⟨b, rfl, h1⟩
  have H1 := Lib.hid h1
  clear h1
  go_wp2_with fail
  refine (H1.out.add _ (bs := [108, 102]) rfl (by decide) (E := 0) (L' := [2, 3]) (by decide) (by decide)).mono ?_
  rintro e w2 ⟨rfl, h2, _⟩
  have H2 := Lib.hid h2
  clear h2 H1
  go_wp2_with fail
  refine (H2.out.peek 5 (M := [2, 3]) rfl).mono ?_
  rintro e w3 ⟨a, c, rfl, hs3, h3⟩
  have H3 := Lib.hid h3
  have HS3 := Lib.hid hs3
  clear h3 hs3 H2
  go_wp2_with fail
  refine (H3.out.left (n := 2) rfl).mono ?_
  rintro e w' ⟨rfl, rfl⟩
  go_wp2_with fail
  refine (H3.out.next (x := 2) (L' := [3]) rfl rfl).mono ?_
  rintro e w4 ⟨rfl, h4, k4⟩
  have H4 := Lib.hid h4
  have HS4 : Hid (Sl w4 (.slice a 2 c) [2, 3]) := k4.out _ _ HS3.out
  clear h4 k4 HS3
  go_wp2_with fail
  refine (H4.out.add _ (bs := [111]) rfl (by decide) (E := 0) (L' := [3, 1]) (by decide) (by decide)).mono ?_
  rintro e w5 ⟨rfl, h5, k5⟩
  have H5 := Lib.hid h5
  have HS5 := Lib.hid (k5.out _ _ HS4.out)
  clear h5 k5 HS4
  go_wp2_with fail
  refine (H5.out.next (x := 3) (L' := [1]) rfl rfl).mono ?_
  rintro e w6 ⟨rfl, h6, k6⟩
  have H6 := Lib.hid h6
  have HS6 := Lib.hid (k6.out _ _ HS5.out)
  clear h6 k6 HS5
  go_wp2_with fail
  refine (H6.out.next (x := 1) (L' := []) rfl rfl).mono ?_
  rintro e w7 ⟨rfl, h7, k7⟩
  have H7 := Lib.hid h7
  have HS7 := Lib.hid (k7.out _ _ HS6.out)
  clear h7 k7 HS6
  go_wp2_with fail
  refine (H7.out.next (x := 1) (L' := []) rfl rfl).mono ?_
  rintro e w8 ⟨rfl, h8, k8⟩
  have H8 := Lib.hid h8
  have HS8 := Lib.hid (k8.out _ _ HS7.out)
  clear h8 k8 HS7
  go_wp2_with fail
  have HB9 : Hid (Below w8.heap.size w8 (w8.alloc (.cells #[.int .i64 1, .int .i64 2, .int .i64 3] 3))) := (Below.refl _ w8).alloc (Nat.le_refl _) _
  have H9 := Lib.hid (H8.out.below HB9.out)
  have HS9 := Lib.hid (HS8.out.below HB9.out)
  refine (print_to _ _ _ _ H9.out.e (lit3 w8) (T := [111, 108, 102]) (E := 0) (by decide) (by decide)).mono ?_
  rintro e w9 ⟨rfl, hb9⟩
  have H10 := Lib.hid (H9.out.below hb9)
  have HS10 := Lib.hid (HS9.out.below hb9)
  clear hb9 H9 HS9 HB9 H8 HS8
  go_wp2_with fail
  refine (parse_to _ _ H10.out.e (by decide) (bs := [111, 108, 120]) rfl (L := []) (E := 9) (by decide) (by decide)).mono ?_
  rintro e w10 ⟨a2, c2, rfl, _, hb10⟩
  have H11 := Lib.hid (H10.out.below hb10)
  have HS11 := Lib.hid (HS10.out.below hb10)
  clear hb10 H10 HS10
  go_wp2_with fail
  have HB12 : Hid (Below w10.heap.size w10 (w10.alloc (.cells #[.int .i64 2, .int .i64 3] 3))) := (Below.refl _ w10).alloc (Nat.le_refl _) _
  have H12 := Lib.hid (H11.out.below HB12.out)
  refine (same_yes _ _ _ _ _ _ [2, 3] _ (Rd.of_sl (HS11.out.below HB12.out)) (lit2 w10)).mono ?_
  rintro e w11 ⟨rfl, q, rfl⟩
  have H13 := Lib.hid (H12.out.below (bel_drewN (Below.refl _ _) q))
  obtain ⟨w12, hw12⟩ : ∃ w12, (w10.alloc (.cells #[.int .i64 2, .int .i64 3] 3)).drewN q = w12 := ⟨_, rfl⟩
  rw [hw12] at H13 ⊢
  clear hw12 H12 HB12 H11 HS11
  go_wp2_with fail
  refine (H13.out.left (n := 0) rfl).mono ?_
  rintro e w' ⟨rfl, rfl⟩
  go_wp2
  go_ret
  exact ⟨rfl, H13.out.bel⟩
end Go.Proofs.YtpgokoeedmipeaaDoor
