/- The model between the calls of a law: agrees told of it; its beginning at any first generation. -/
import Derived.Test.YtfnhkapbfgofkaaWta
import Derived.Test.YtfnhkapbfgofkaaWab
namespace Go.Proofs.Ytfnhkapbfgofkaa
open Go.RowKit

theorem agrees_ok {w0 w : World} {mb b n f k : Nat} (h : Ms w0 w mb b n f k) (hk : k ≤ 200) : Calls Try.prog 33 #[.pointer (some ⟨mb, 0, none⟩)] w fun e w' => e = .returned (.bool true) ∧ Hid (Ms w0 w' mb b n f k) := by
  obtain ⟨p, tt, M, e, H, pR, qR, cR, R, pQ, qQ, cQ, Q, N, P, hb, hm, he⟩ := h
  refine (agrees_mb hb hm hk).mono ?_
  rintro e' w' ⟨rfl, h1⟩
  exact ⟨rfl, p, tt, M, e, H, pR, qR, cR, R, pQ, qQ, cQ, Q, N, P, h1.out, hm, he⟩
theorem bel_tr {a b c : World} (h1 : Below a.heap.size a b) (h2 : Below b.heap.size b c) : Below a.heap.size a c := h1.trans (h2.mono h1.size)
/-- The generation that a law begins at, if x is asked. -/
def fg (x : Nat) : Nat := if x = 0 then 1 else x
theorem fg_le {x : Nat} (h : x ≤ 4294967295) : 1 ≤ fg x ∧ fg x ≤ 4294967295 := by unfold fg; split <;> omega
set_option maxHeartbeats 4000000 in
set_option maxRecDepth 100000 in
theorem begin_any (x y : Nat) (w : World) (hx : x ≤ 255) (hy : y ≤ 4294967295) : Calls Try.prog 31 #[.int .u8 x, .int .u32 y] w fun e w' => ∃ mb b, e = .returned (.pointer (some ⟨mb, 0, none⟩)) ∧ Hid (Ms w w' mb b (1 + x) (fg y) 0) := by
  obtain ⟨hf1, hf2⟩ := fg_le hy
  have NW : Hid (Calls Try.prog 12 #[.int .i64 (1 + (x : Int)), .int .u32 (fg y : Nat)] w fun e w' => ∃ b, e = .returned (.tuple #[.pointer (some ⟨b, 0, none⟩), .int .i64 0]) ∧ Hid (HNew (hfresh (1 + x) (fg y)) w w' b)) := by
    have := hnew_ok (1 + x) (fg y) w (by omega) (by omega) hf1 hf2
    rw [show ((1 + x : Nat) : Int) = 1 + (x : Int) by omega] at this
    exact this
  have hmm := @run_makeMap Try.prog
  have MS : Hid (∀ w1 b, HNew (hfresh (1 + x) (fg y)) w w1 b → Ms w ((w1.alloc (.map #[] 0)).alloc (.cells #[.pointer (some ⟨b, 0, none⟩), .map (some w1.heap.size), .slice none 0 0, .slice none 0 0] 68)) (w1.heap.size + 1) b (1 + x) (fg y) 0) := fun w1 b h => ms_fresh (by omega) (by omega) hf1 hf2 h
  clear hf1 hf2
  by_cases y1 : y ≤ 1
  · have e1 : fg y = 1 := by unfold fg; split <;> omega
    rw [e1] at NW MS ⊢
    have hmx : ¬ (1 : Int) < (y : Int) := by omega
    have hmx2 : max (1 : Int) (y : Int) = 1 := by omega
    go_enter Try.func31, Try.ntmps31
    go_wp2_with (go_at_call 12; refine NW.out.mono ?_; rintro e w1 ⟨b, rfl, HF⟩)
    have HM := Lib.hid (MS.out _ _ HF.out)
    go_ret
    exact ⟨_, _, rfl, HM⟩
  · have e1 : fg y = y := by unfold fg; split <;> omega
    rw [e1] at NW MS ⊢
    have hmx : (1 : Int) < (y : Int) := by omega
    have hmx2 : max (1 : Int) (y : Int) = (y : Int) := by omega
    go_enter Try.func31, Try.ntmps31
    go_wp2_with (go_at_call 12; refine NW.out.mono ?_; rintro e w1 ⟨b, rfl, HF⟩)
    have HM := Lib.hid (MS.out _ _ HF.out)
    go_ret
    exact ⟨_, _, rfl, HM⟩
end Go.Proofs.Ytfnhkapbfgofkaa
