/- The contract of the examples that every statement about package tags ends with: they hold. -/
import Derived.Test.YtmgkdklpahggjaaDoorCf
namespace Go.Proofs.YtmgkdklpahggjaaDoor
open Go.RowKit

theorem tg1 : Tag [97, 34, 98, 92] [97, 34, 98, 92] := ⟨⟨by intro r hr; simp at hr; unfold OkRune; omega, by decide⟩, by decide, by decide, by intro r hr; simp at hr; omega⟩
theorem tg2 : Tag [97, 34, 98] [97, 34, 98] := ⟨⟨by intro r hr; simp at hr; unfold OkRune; omega, by decide⟩, by decide, by decide, by intro r hr; simp at hr; omega⟩
theorem tg3 : Tag [237, 149, 156, 97] [54620, 97] := ⟨⟨by intro r hr; simp at hr; unfold OkRune; omega, by decide⟩, by decide, by decide, by intro r hr; simp at hr; omega⟩
theorem tg4 : Tag [97] [97] := ⟨⟨by intro r hr; simp at hr; unfold OkRune; omega, by decide⟩, by decide, by decide, by intro r hr; simp at hr; omega⟩
theorem tg5 : Tag [97, 98] [97, 98] := ⟨⟨by intro r hr; simp at hr; unfold OkRune; omega, by decide⟩, by decide, by decide, by intro r hr; simp at hr; omega⟩
theorem tg6 : Tag [109, 97, 105, 110, 46, 103, 111] [109, 97, 105, 110, 46, 103, 111] := ⟨⟨by intro r hr; simp at hr; unfold OkRune; omega, by decide⟩, by decide, by decide, by intro r hr; simp at hr; omega⟩
theorem utf7 : Utf [10] [10] := ⟨by intro r hr; simp at hr; unfold OkRune; omega, by decide⟩
theorem no7 : NoTag [10] := fun rs h => by
  obtain rfl := utf_unique h.utf utf7
  have := h.good 10 (by simp)
  omega

theorem ex_quote (w : World) (he : Env w) :
    Calls Tryd.prog 14 #[.string ⟨#[97, 34, 98, 92]⟩] w fun e w' => e = .returned (.tuple #[.string ⟨#[34, 97, 92, 34, 98, 92, 92, 34]⟩, .int .i64 0]) ∧ Below w.heap.size w w' :=
  quote_tag ⟨#[97, 34, 98, 92]⟩ _ w he tg1
theorem ex_unquote (w : World) (he : Env w) :
    Calls Tryd.prog 22 #[.string ⟨#[34, 97, 92, 34, 98, 34, 32, 53]⟩] w fun e w' => e = .returned (.tuple #[.string ⟨#[97, 34, 98]⟩, .int .i64 6, .int .i64 0]) ∧ Below w.heap.size w w' :=
  unquote_tag ⟨#[34, 97, 92, 34, 98, 34, 32, 53]⟩ [97, 34, 98] 6 _ w he (by decide) (by decide) tg2
theorem ex_width (w : World) (he : Env w) :
    Calls Tryd.prog 16 #[.string ⟨#[237, 149, 156, 97]⟩] w fun e w' => e = .returned (.tuple #[.int .i64 3, .int .i64 0]) ∧ Below w.heap.size w w' :=
  width_tag ⟨#[237, 149, 156, 97]⟩ _ w he tg3
theorem ex_cut (w : World) (he : Env w) :
    Calls Tryd.prog 24 #[.string ⟨#[237, 149, 156, 97]⟩, .int .i64 2] w fun e w' => e = .returned (.tuple #[.string ⟨#[237, 149, 156]⟩, .int .i64 0]) ∧ Below w.heap.size w w' := by
  have h := cut_tag ⟨#[237, 149, 156, 97]⟩ _ 2 w he tg3 (by omega)
  have e : cutB ⟨#[237, 149, 156, 97]⟩ [54620, 97] 2 = ⟨#[237, 149, 156]⟩ := by
    have : ((fit [54620, 97] 2).flatMap encR).length = 3 := by decide
    unfold cutB
    rw [this]
    apply ByteArray.ext
    simp [ByteArray.data_extract]
  rwa [e] at h
theorem ex_form (w : World) :
    Calls Tryd.prog 22 #[.string ⟨#[34, 92, 97, 34]⟩] w fun e w' => e = .returned (.tuple #[.string ⟨#[]⟩, .int .i64 0, .int .i64 9]) ∧ Below w.heap.size w w' :=
  unquote_form ⟨#[34, 92, 97, 34]⟩ w (by decide) (by decide)
theorem ex_order (w : World) (he : Env w) :
    Calls Tryd.prog 26 #[.string ⟨#[97]⟩, .string ⟨#[97, 98]⟩] w fun e w' => e = .returned (.int .i64 (-1)) ∧ Below w.heap.size w w' := by
  have h := order_any ⟨#[97]⟩ ⟨#[97, 98]⟩ w he (by decide) (by decide)
  have e : ordT [97] [97, 98] = -1 := (ordT_both tg4 tg5).trans (by decide)
  simp only at h
  rwa [e] at h
theorem ex_plain (w : World) (he : Env w) :
    Calls Tryd.prog 20 #[.string ⟨#[109, 97, 105, 110, 46, 103, 111]⟩] w fun e w' => e = .returned (.bool true) ∧ Below w.heap.size w w' := by
  have h := plain_tag ⟨#[109, 97, 105, 110, 46, 103, 111]⟩ _ w he tg6
  rwa [decide_eq_true (by decide)] at h
theorem ex_check (w : World) (he : Env w) :
    Calls Tryd.prog 18 #[.string ⟨#[10]⟩] w fun e w' => e = .returned (.int .i64 16) ∧ Below w.heap.size w w' :=
  check_no ⟨#[10]⟩ w he (by decide) no7

set_option maxRecDepth 100000 in
set_option maxHeartbeats 1000000 in
theorem works_ok (w : World) (he : Env w) :
    Calls Tryd.prog 13 #[] w fun e w' => e = .returned (.bool true) ∧ Below w.heap.size w w' := by
  go_enter Tryd.func13, Tryd.ntmps13
  go_wp2_with fail
  refine (ex_quote _ he).mono ?_
  rintro e w1 ⟨rfl, hb1⟩
  have B1 := Lib.hid hb1
  clear hb1
  go_wp2_with fail
  refine (ex_unquote _ (he.below B1.out)).mono ?_
  rintro e w2 ⟨rfl, hb2⟩
  have B2 := Lib.hid (bel2 B1.out hb2)
  clear hb2
  go_wp2_with fail
  refine (ex_width _ (he.below B2.out)).mono ?_
  rintro e w3 ⟨rfl, hb3⟩
  have B3 := Lib.hid (bel2 B2.out hb3)
  clear hb3
  go_wp2_with fail
  refine (ex_cut _ (he.below B3.out)).mono ?_
  rintro e w4 ⟨rfl, hb4⟩
  have B4 := Lib.hid (bel2 B3.out hb4)
  clear hb4
  go_wp2_with fail
  refine (ex_form _).mono ?_
  rintro e w5 ⟨rfl, hb5⟩
  have B5 := Lib.hid (bel2 B4.out hb5)
  clear hb5
  go_wp2_with fail
  refine (ex_order _ (he.below B5.out)).mono ?_
  rintro e w6 ⟨rfl, hb6⟩
  have B6 := Lib.hid (bel2 B5.out hb6)
  clear hb6
  go_wp2_with fail
  refine (ex_plain _ (he.below B6.out)).mono ?_
  rintro e w7 ⟨rfl, hb7⟩
  have B7 := Lib.hid (bel2 B6.out hb7)
  clear hb7
  go_wp2_with fail
  refine (ex_check _ (he.below B7.out)).mono ?_
  rintro e w8 ⟨rfl, hb8⟩
  go_wp2
  go_ret
  exact ⟨rfl, bel2 B7.out hb8⟩
end Go.Proofs.YtmgkdklpahggjaaDoor
