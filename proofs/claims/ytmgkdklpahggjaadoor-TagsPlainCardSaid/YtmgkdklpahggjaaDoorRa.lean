/- The contract of the document's own decoder of one rune (Rune), and of a rune's width (wide). -/
import Derived.Test.YtmgkdklpahggjaaDoorRows
import Derived.Test.YtmgkdklpahggjaaDoorTo
import Derived.WalkKit
import Derived.WalkSpells
import Derived.WalkLawsBesides
import Derived.Lib.Hide
import Derived.Deep.QuietTactic
import Derived.BigQuiet
import Derived.IntWalk
namespace Go.Proofs.YtmgkdklpahggjaaDoor
open Go.RowKit

set_option maxRecDepth 100000 in
set_option maxHeartbeats 400000 in
theorem rwide_any (r : Nat) (w : World) :
    Calls Tryd.prog 31 #[.int .i64 r] w fun e w' => e = .returned (.int .i64 (wid r)) ∧ w = w' := by
  unfold wid
  by_cases h : r < 4352
  · rw [if_pos h]
    go_enter Tryd.func31, Tryd.ntmps31
    go_wp2
    go_ret
    exact ⟨rfl, rfl⟩
  · rw [if_neg h]
    go_enter Tryd.func31, Tryd.ntmps31
    go_wp2
    go_ret
    exact ⟨rfl, rfl⟩

theorem ret2_int {a b : Int} {v : Value} (h : a = b) : Ending.returned (.tuple #[.int .i64 a, v]) = .returned (.tuple #[.int .i64 b, v]) := by rw [h]

/-- What the document's decoder gives at a place: the rune and its bytes, or nothing. -/
def refD (s : ByteArray) (p : Nat) : Nat × Nat := if Utf8.decode s p = (65533, 1) then (0, 0) else Utf8.decode s p
def Cont (b : Nat) : Prop := 128 ≤ b ∧ b < 192

set_option maxRecDepth 100000 in
set_option maxHeartbeats 400000 in
theorem rune_ascii (s : ByteArray) (p b0 : Nat) (w : World) (hp : p < s.size) (hs : s.size ≤ 140737488351232) (e0 : s[p].toNat = b0) (h0 : b0 < 128) :
    Calls Tryd.prog 37 #[.string s, .int .i64 p] w fun e w' => e = .returned (.tuple #[.int .i64 b0, .int .i64 1]) ∧ w = w' := by
  go_enter Tryd.func37, Tryd.ntmps37
  go_wp2
  go_ret2
  exact ⟨rfl, rfl⟩

set_option maxRecDepth 100000 in
set_option maxHeartbeats 400000 in
theorem rune_none (s : ByteArray) (p b0 : Nat) (w : World) (hp : p < s.size) (hs : s.size ≤ 140737488351232) (e0 : s[p].toNat = b0) (l0 : b0 < 256) (h0 : (128 ≤ b0 ∧ b0 < 192) ∨ 248 ≤ b0) :
    Calls Tryd.prog 37 #[.string s, .int .i64 p] w fun e w' => e = .returned (.tuple #[.int .i64 0, .int .i64 0]) ∧ w = w' := by
  rcases h0 with ⟨h0, h1⟩ | h0
  all_goals
    go_enter Tryd.func37, Tryd.ntmps37
    go_wp2
    go_ret2
    exact ⟨rfl, rfl⟩

set_option maxRecDepth 100000 in
set_option maxHeartbeats 1000000 in
theorem rune_short (s : ByteArray) (p n b0 : Nat) (w : World) (hp : p < s.size) (hs : s.size ≤ 140737488351232) (e0 : s[p].toNat = b0) (l0 : b0 < 256)
    (hc : (192 ≤ b0 ∧ b0 < 224 ∧ n = 2) ∨ (224 ≤ b0 ∧ b0 < 240 ∧ n = 3) ∨ (240 ≤ b0 ∧ b0 < 248 ∧ n = 4)) (hn : s.size < p + n) :
    Calls Tryd.prog 37 #[.string s, .int .i64 p] w fun e w' => e = .returned (.tuple #[.int .i64 0, .int .i64 0]) ∧ w = w' := by
  rcases hc with ⟨h0, h1, rfl⟩ | ⟨h0, h1, rfl⟩ | ⟨h0, h1, rfl⟩
  all_goals
    go_enter Tryd.func37, Tryd.ntmps37
    go_wp2
    go_ret2
    exact ⟨rfl, rfl⟩

set_option maxRecDepth 100000 in
set_option maxHeartbeats 1000000 in
theorem rune_two (s : ByteArray) (p b0 b1 r n : Nat) (w : World) (hp : p < s.size) (hs : s.size ≤ 140737488351232) (e0 : s[p].toNat = b0) (h0 : 192 ≤ b0) (h1 : b0 < 224) (hp1 : p + 2 ≤ s.size) (e1 : (s[p + 1]'(by omega)).toNat = b1) (l1 : b1 < 256)
    (hr : (¬ Cont b1 ∧ r = 0 ∧ n = 0) ∨ (Cont b1 ∧ b0 < 194 ∧ r = 0 ∧ n = 0) ∨ (Cont b1 ∧ 194 ≤ b0 ∧ r = (b0 - 192) * 64 + (b1 - 128) ∧ n = 2)) :
    Calls Tryd.prog 37 #[.string s, .int .i64 p] w fun e w' => e = .returned (.tuple #[.int .i64 r, .int .i64 n]) ∧ w = w' := by
  unfold Cont at hr
  rcases hr with ⟨h2, rfl, rfl⟩ | ⟨⟨h2, h3⟩, h4, rfl, rfl⟩ | ⟨⟨h2, h3⟩, h4, hr, rfl⟩
  · by_cases hlo : b1 < 128
    · clear h2
      go_enter Tryd.func37, Tryd.ntmps37
      go_wp2
      refine wp_loop_rounds 1 ?_
      rw [rounds_succ]
      go_wp2
      go_ret2
      exact ⟨rfl, rfl⟩
    · have hhi : 192 ≤ b1 := by omega
      clear h2
      go_enter Tryd.func37, Tryd.ntmps37
      go_wp2
      refine wp_loop_rounds 1 ?_
      rw [rounds_succ]
      go_wp2
      go_ret2
      exact ⟨rfl, rfl⟩
  · go_enter Tryd.func37, Tryd.ntmps37
    go_wp2
    refine wp_loop_rounds 2 ?_
    rw [rounds_succ]
    go_wp2
    rw [rounds_succ]
    go_wp2
    go_ret2
    exact ⟨rfl, rfl⟩
  · have hge : 128 ≤ (b0 - 192) * 64 + (b1 - 128) := by omega
    go_enter Tryd.func37, Tryd.ntmps37
    go_wp2
    refine wp_loop_rounds 2 ?_
    rw [rounds_succ]
    go_wp2
    rw [rounds_succ]
    go_wp2
    go_ret2
    exact ⟨ret2_int (by omega), rfl⟩

set_option maxRecDepth 100000 in
set_option maxHeartbeats 2000000 in
theorem rune_three (s : ByteArray) (p b0 b1 b2 r n : Nat) (w : World) (hp : p < s.size) (hs : s.size ≤ 140737488351232) (e0 : s[p].toNat = b0) (h0 : 224 ≤ b0) (h1 : b0 < 240) (hp1 : p + 3 ≤ s.size) (e1 : (s[p + 1]'(by omega)).toNat = b1) (l1 : b1 < 256) (e2 : (s[p + 2]'(by omega)).toNat = b2) (l2 : b2 < 256)
    (hr : (¬ Cont b1 ∧ r = 0 ∧ n = 0) ∨ (Cont b1 ∧ ¬ Cont b2 ∧ r = 0 ∧ n = 0) ∨ (Cont b1 ∧ Cont b2 ∧ ∃ v, v = (b0 - 224) * 4096 + (b1 - 128) * 64 + (b2 - 128) ∧ (((v < 2048 ∨ (55296 ≤ v ∧ v ≤ 57343)) ∧ r = 0 ∧ n = 0) ∨ (2048 ≤ v ∧ (v < 55296 ∨ 57343 < v) ∧ r = v ∧ n = 3)))) :
    Calls Tryd.prog 37 #[.string s, .int .i64 p] w fun e w' => e = .returned (.tuple #[.int .i64 r, .int .i64 n]) ∧ w = w' := by
  unfold Cont at hr
  rcases hr with ⟨h2, rfl, rfl⟩ | ⟨⟨h2, h3⟩, h4, rfl, rfl⟩ | ⟨⟨h2, h3⟩, ⟨h4, h5⟩, v, hv, ⟨h6 | h6, rfl, rfl⟩ | ⟨h6, h7 | h7, rfl, rfl⟩⟩
  · by_cases hlo : b1 < 128
    · clear h2
      go_enter Tryd.func37, Tryd.ntmps37
      go_wp2
      refine wp_loop_rounds 1 ?_
      rw [rounds_succ]
      go_wp2
      go_ret2
      exact ⟨rfl, rfl⟩
    · have hhi : 192 ≤ b1 := by omega
      clear h2
      go_enter Tryd.func37, Tryd.ntmps37
      go_wp2
      refine wp_loop_rounds 1 ?_
      rw [rounds_succ]
      go_wp2
      go_ret2
      exact ⟨rfl, rfl⟩
  · by_cases hlo : b2 < 128
    · clear h4
      go_enter Tryd.func37, Tryd.ntmps37
      go_wp2
      refine wp_loop_rounds 2 ?_
      rw [rounds_succ]
      go_wp2
      rw [rounds_succ]
      go_wp2
      go_ret2
      exact ⟨rfl, rfl⟩
    · have hhi : 192 ≤ b2 := by omega
      clear h4
      go_enter Tryd.func37, Tryd.ntmps37
      go_wp2
      refine wp_loop_rounds 2 ?_
      rw [rounds_succ]
      go_wp2
      rw [rounds_succ]
      go_wp2
      go_ret2
      exact ⟨rfl, rfl⟩
  · rw [hv] at h6
    clear hv
    go_enter Tryd.func37, Tryd.ntmps37
    go_wp2
    refine wp_loop_rounds 3 ?_
    rw [rounds_succ]
    go_wp2
    rw [rounds_succ]
    go_wp2
    rw [rounds_succ]
    go_wp2
    go_ret2
    exact ⟨rfl, rfl⟩
  · rw [hv] at h6
    clear hv
    obtain ⟨h6, h7⟩ := h6
    go_enter Tryd.func37, Tryd.ntmps37
    go_wp2
    refine wp_loop_rounds 3 ?_
    rw [rounds_succ]
    go_wp2
    rw [rounds_succ]
    go_wp2
    rw [rounds_succ]
    go_wp2
    go_ret2
    exact ⟨rfl, rfl⟩
  · have H := Lib.hid hv
    have h6' : 2048 ≤ (b0 - 224) * 4096 + (b1 - 128) * 64 + (b2 - 128) := by omega
    have h7' : (b0 - 224) * 4096 + (b1 - 128) * 64 + (b2 - 128) < 55296 := by omega
    clear hv h6 h7
    go_enter Tryd.func37, Tryd.ntmps37
    go_wp2
    refine wp_loop_rounds 3 ?_
    rw [rounds_succ]
    go_wp2
    rw [rounds_succ]
    go_wp2
    rw [rounds_succ]
    go_wp2
    go_ret2
    exact ⟨ret2_int (by have := H.out; omega), rfl⟩
  · have H := Lib.hid hv
    have h6' : 2048 ≤ (b0 - 224) * 4096 + (b1 - 128) * 64 + (b2 - 128) := by omega
    have h7' : (b0 - 224) * 4096 + (b1 - 128) * 64 + (b2 - 128) > 57343 := by omega
    clear hv h6 h7
    go_enter Tryd.func37, Tryd.ntmps37
    go_wp2
    refine wp_loop_rounds 3 ?_
    rw [rounds_succ]
    go_wp2
    rw [rounds_succ]
    go_wp2
    rw [rounds_succ]
    go_wp2
    go_ret2
    exact ⟨ret2_int (by have := H.out; omega), rfl⟩

set_option maxRecDepth 100000 in
set_option maxHeartbeats 2000000 in
theorem rune_four (s : ByteArray) (p b0 b1 b2 b3 r n : Nat) (w : World) (hp : p < s.size) (hs : s.size ≤ 140737488351232) (e0 : s[p].toNat = b0) (h0 : 240 ≤ b0) (h1 : b0 < 248) (hp1 : p + 4 ≤ s.size) (e1 : (s[p + 1]'(by omega)).toNat = b1) (l1 : b1 < 256) (e2 : (s[p + 2]'(by omega)).toNat = b2) (l2 : b2 < 256) (e3 : (s[p + 3]'(by omega)).toNat = b3) (l3 : b3 < 256)
    (hr : (¬ Cont b1 ∧ r = 0 ∧ n = 0) ∨ (Cont b1 ∧ ¬ Cont b2 ∧ r = 0 ∧ n = 0) ∨ (Cont b1 ∧ Cont b2 ∧ ¬ Cont b3 ∧ r = 0 ∧ n = 0) ∨ (Cont b1 ∧ Cont b2 ∧ Cont b3 ∧ ∃ v, v = (b0 - 240) * 262144 + (b1 - 128) * 4096 + (b2 - 128) * 64 + (b3 - 128) ∧ (((v < 65536 ∨ 1114111 < v) ∧ r = 0 ∧ n = 0) ∨ (65536 ≤ v ∧ v ≤ 1114111 ∧ r = v ∧ n = 4)))) :
    Calls Tryd.prog 37 #[.string s, .int .i64 p] w fun e w' => e = .returned (.tuple #[.int .i64 r, .int .i64 n]) ∧ w = w' := by
  unfold Cont at hr
  rcases hr with ⟨h2, rfl, rfl⟩ | ⟨⟨h2, h3⟩, h4, rfl, rfl⟩ | ⟨⟨h2, h3⟩, ⟨h4, h5⟩, h6, rfl, rfl⟩ | ⟨⟨h2, h3⟩, ⟨h4, h5⟩, ⟨h6, h7⟩, v, hv, ⟨h8 | h8, rfl, rfl⟩ | ⟨h8, h9, rfl, rfl⟩⟩
  · by_cases hlo : b1 < 128
    · clear h2
      go_enter Tryd.func37, Tryd.ntmps37
      go_wp2
      refine wp_loop_rounds 1 ?_
      rw [rounds_succ]
      go_wp2
      go_ret2
      exact ⟨rfl, rfl⟩
    · have hhi : 192 ≤ b1 := by omega
      clear h2
      go_enter Tryd.func37, Tryd.ntmps37
      go_wp2
      refine wp_loop_rounds 1 ?_
      rw [rounds_succ]
      go_wp2
      go_ret2
      exact ⟨rfl, rfl⟩
  · by_cases hlo : b2 < 128
    · clear h4
      go_enter Tryd.func37, Tryd.ntmps37
      go_wp2
      refine wp_loop_rounds 2 ?_
      rw [rounds_succ]
      go_wp2
      rw [rounds_succ]
      go_wp2
      go_ret2
      exact ⟨rfl, rfl⟩
    · have hhi : 192 ≤ b2 := by omega
      clear h4
      go_enter Tryd.func37, Tryd.ntmps37
      go_wp2
      refine wp_loop_rounds 2 ?_
      rw [rounds_succ]
      go_wp2
      rw [rounds_succ]
      go_wp2
      go_ret2
      exact ⟨rfl, rfl⟩
  · by_cases hlo : b3 < 128
    · clear h6
      go_enter Tryd.func37, Tryd.ntmps37
      go_wp2
      refine wp_loop_rounds 3 ?_
      rw [rounds_succ]
      go_wp2
      rw [rounds_succ]
      go_wp2
      rw [rounds_succ]
      go_wp2
      go_ret2
      exact ⟨rfl, rfl⟩
    · have hhi : 192 ≤ b3 := by omega
      clear h6
      go_enter Tryd.func37, Tryd.ntmps37
      go_wp2
      refine wp_loop_rounds 3 ?_
      rw [rounds_succ]
      go_wp2
      rw [rounds_succ]
      go_wp2
      rw [rounds_succ]
      go_wp2
      go_ret2
      exact ⟨rfl, rfl⟩
  · rw [hv] at h8
    clear hv
    go_enter Tryd.func37, Tryd.ntmps37
    go_wp2
    refine wp_loop_rounds 4 ?_
    rw [rounds_succ]
    go_wp2
    rw [rounds_succ]
    go_wp2
    rw [rounds_succ]
    go_wp2
    rw [rounds_succ]
    go_wp2
    go_ret2
    exact ⟨rfl, rfl⟩
  · rw [hv] at h8
    clear hv
    go_enter Tryd.func37, Tryd.ntmps37
    go_wp2
    refine wp_loop_rounds 4 ?_
    rw [rounds_succ]
    go_wp2
    rw [rounds_succ]
    go_wp2
    rw [rounds_succ]
    go_wp2
    rw [rounds_succ]
    go_wp2
    go_ret2
    exact ⟨rfl, rfl⟩
  · have H := Lib.hid hv
    have h8' : 65536 ≤ (b0 - 240) * 262144 + (b1 - 128) * 4096 + (b2 - 128) * 64 + (b3 - 128) := by omega
    have h9' : (b0 - 240) * 262144 + (b1 - 128) * 4096 + (b2 - 128) * 64 + (b3 - 128) ≤ 1114111 := by omega
    clear hv h8 h9
    go_enter Tryd.func37, Tryd.ntmps37
    go_wp2
    refine wp_loop_rounds 4 ?_
    rw [rounds_succ]
    go_wp2
    rw [rounds_succ]
    go_wp2
    rw [rounds_succ]
    go_wp2
    rw [rounds_succ]
    go_wp2
    go_ret2
    exact ⟨ret2_int (by have := H.out; omega), rfl⟩
end Go.Proofs.YtmgkdklpahggjaaDoor
