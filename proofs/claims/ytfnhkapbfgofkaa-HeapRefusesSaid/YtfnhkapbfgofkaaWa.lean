/- The contracts of the program's valid, table, All, Len, Left. -/
import Derived.Test.YtfnhkapbfgofkaaWk
namespace Go.Proofs.Ytfnhkapbfgofkaa
open Go.RowKit

theorem hvalid_nil (w : World) : Calls Try.prog 35 #[.pointer none] w fun e w' => e = .returned (.bool false) ∧ w = w' := by
  go_enter Try.func35, Try.ntmps35
  go_wp2
  go_ret
  exact ⟨rfl, rfl⟩
theorem hvalid_zero (b : Nat) (w : World) (h : Bk w b 49 #[.pointer none]) : Calls Try.prog 35 #[.pointer (some ⟨b, 0, none⟩)] w fun e w' => e = .returned (.bool false) ∧ w = w' := by
  have hc : w.cell? ⟨b, 0, none⟩ = some (.pointer none) := h.cell 0
  clear h
  go_enter Try.func35, Try.ntmps35
  go_wp2
  go_ret
  exact ⟨rfl, rfl⟩
theorem hvalid_yes (b p : Nat) (w : World) (hc : w.cell? ⟨b, 0, none⟩ = some (.pointer (some ⟨p, 0, none⟩))) : Calls Try.prog 35 #[.pointer (some ⟨b, 0, none⟩)] w fun e w' => e = .returned (.bool true) ∧ w = w' := by
  go_enter Try.func35, Try.ntmps35
  go_wp2
  go_ret
  exact ⟨rfl, rfl⟩
theorem hvalid_no (v : Option Addr) (w : World) (h : HNo w v) : Calls Try.prog 35 #[.pointer v] w fun e w' => e = .returned (.bool false) ∧ w = w' := by
  rcases h with rfl | ⟨b, rfl, h⟩
  · exact hvalid_nil w
  · exact hvalid_zero b w h
theorem htable_yes (b p t : Nat) (w : World) (hc : w.cell? ⟨b, 0, none⟩ = some (.pointer (some ⟨p, 0, none⟩))) (hp : w.cell? ⟨p, 0, none⟩ = some (.pointer (some ⟨t, 0, none⟩))) : Calls Try.prog 59 #[.pointer (some ⟨b, 0, none⟩)] w fun e w' => e = .returned (.pointer (some ⟨t, 0, none⟩)) ∧ w = w' := by
  have HV := Lib.hid (hvalid_yes b p w hc)
  go_enter Try.func59, Try.ntmps59
  go_wp2_with (go_at_call 35; refine HV.out.mono ?_; rintro e w' ⟨rfl, rfl⟩)
  go_ret
  exact ⟨rfl, rfl⟩
theorem htable_no (v : Option Addr) (w : World) (h : HNo w v) : Calls Try.prog 59 #[.pointer v] w fun e w' => e = .returned (.pointer none) ∧ w = w' := by
  have HV := Lib.hid (hvalid_no v w h)
  clear h
  go_enter Try.func59, Try.ntmps59
  go_wp2_with (go_at_call 35; refine HV.out.mono ?_; rintro e w' ⟨rfl, rfl⟩)
  go_ret
  exact ⟨rfl, rfl⟩
theorem htable_ok (b p t : Nat) (H : Hp) (w : World) (h : HW w b p t H) : Calls Try.prog 59 #[.pointer (some ⟨b, 0, none⟩)] w fun e w' => e = .returned (.pointer (some ⟨t, 0, none⟩)) ∧ w = w' := htable_yes b p t w h.c0 h.cp

theorem hall_ok (b p t : Nat) (H : Hp) (w : World) (h : HW w b p t H) : Calls Try.prog 28 #[.pointer (some ⟨b, 0, none⟩)] w (TakenV H.t.now w) := by
  have HT := Lib.hid (htable_ok b p t H w h)
  have AL := Lib.hid (taken_ok t H.t w h.tab)
  clear h
  generalize H.t.now = L at *
  go_enter Try.func28, Try.ntmps28
  go_wp2_with (first
    | (go_at_call 59; refine HT.out.mono ?_; rintro e w' ⟨rfl, rfl⟩)
    | (go_at_call 60; refine AL.out.mono ?_; rintro e w' ⟨v, rfl, hv⟩; have HVV := Lib.hid hv; clear hv))
  go_ret
  exact ⟨v, rfl, HVV.out⟩
theorem hall_no (v : Option Addr) (w : World) (h : HNo w v) : Calls Try.prog 28 #[.pointer v] w fun e w' => e = .returned (.slice none 0 0) ∧ Below w.heap.size w w' := by
  have HT := Lib.hid (htable_no v w h)
  have AL := Lib.hid (taken_inv none w (.inl rfl))
  clear h
  go_enter Try.func28, Try.ntmps28
  go_wp2_with (first
    | (go_at_call 59; refine HT.out.mono ?_; rintro e w' ⟨rfl, rfl⟩)
    | (go_at_call 60; refine AL.out.mono ?_; rintro e w' ⟨rfl, hv⟩; have HVV := Lib.hid hv; clear hv))
  go_ret
  exact ⟨rfl, HVV.out⟩
theorem hlen_ok (b p t : Nat) (H : Hp) (w : World) (h : HW w b p t H) : Calls Try.prog 29 #[.pointer (some ⟨b, 0, none⟩)] w fun e w' => e = .returned (.int .i64 H.t.held.length) ∧ Below w.heap.size w w' := by
  have HT := Lib.hid (htable_ok b p t H w h)
  have AL := Lib.hid (len_ok t H.t w h.tab)
  clear h
  generalize H.t.held.length = L at *
  go_enter Try.func29, Try.ntmps29
  go_wp2_with (first
    | (go_at_call 59; refine HT.out.mono ?_; rintro e w' ⟨rfl, rfl⟩)
    | (go_at_call 61; refine AL.out.mono ?_; rintro e w' ⟨rfl, hv⟩; have HVV := Lib.hid hv; clear hv))
  go_ret
  exact ⟨rfl, HVV.out⟩
theorem hlen_no (v : Option Addr) (w : World) (h : HNo w v) : Calls Try.prog 29 #[.pointer v] w fun e w' => e = .returned (.int .i64 0) ∧ Below w.heap.size w w' := by
  have HT := Lib.hid (htable_no v w h)
  have AL := Lib.hid (len_inv none w (.inl rfl))
  clear h
  go_enter Try.func29, Try.ntmps29
  go_wp2_with (first
    | (go_at_call 59; refine HT.out.mono ?_; rintro e w' ⟨rfl, rfl⟩)
    | (go_at_call 61; refine AL.out.mono ?_; rintro e w' ⟨rfl, hv⟩; have HVV := Lib.hid hv; clear hv))
  go_ret
  exact ⟨rfl, HVV.out⟩
theorem hleft_ok (b p t : Nat) (H : Hp) (w : World) (h : HW w b p t H) : Calls Try.prog 30 #[.pointer (some ⟨b, 0, none⟩)] w fun e w' => e = .returned (.int .i64 H.t.free.length) ∧ Below w.heap.size w w' := by
  have HT := Lib.hid (htable_ok b p t H w h)
  have AL := Lib.hid (free_ok t H.t w h.tab)
  clear h
  generalize H.t.free.length = L at *
  go_enter Try.func30, Try.ntmps30
  go_wp2_with (first
    | (go_at_call 59; refine HT.out.mono ?_; rintro e w' ⟨rfl, rfl⟩)
    | (go_at_call 62; refine AL.out.mono ?_; rintro e w' ⟨rfl, hv⟩; have HVV := Lib.hid hv; clear hv))
  go_ret
  exact ⟨rfl, HVV.out⟩
theorem hleft_no (v : Option Addr) (w : World) (h : HNo w v) : Calls Try.prog 30 #[.pointer v] w fun e w' => e = .returned (.int .i64 0) ∧ Below w.heap.size w w' := by
  have HT := Lib.hid (htable_no v w h)
  have AL := Lib.hid (free_inv none w (.inl rfl))
  clear h
  go_enter Try.func30, Try.ntmps30
  go_wp2_with (first
    | (go_at_call 59; refine HT.out.mono ?_; rintro e w' ⟨rfl, rfl⟩)
    | (go_at_call 62; refine AL.out.mono ?_; rintro e w' ⟨rfl, hv⟩; have HVV := Lib.hid hv; clear hv))
  go_ret
  exact ⟨rfl, HVV.out⟩
end Go.Proofs.Ytfnhkapbfgofkaa
