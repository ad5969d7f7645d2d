/- The contract of the program's number (of a word). -/
import Derived.Test.YtenggngcigkakaaGreatDoorHs
namespace Go.Proofs.YtenggngcigkakaaGreatDoor
open Go.RowKit

/-- The place of a word among three; 0: it is none of them. -/
def wnum (a b c s : List UInt8) : Int := if s = a then 1 else if s = b then 2 else if s = c then 3 else 0
def wwhy (s : List UInt8) : Int := wnum [99, 108, 111, 115, 101] [101, 120, 112, 105, 114, 121] [99, 111, 108, 108, 101, 99, 116] s
set_option maxRecDepth 100000 in
set_option maxHeartbeats 2000000 in
theorem number_why (s : ByteArray) (w : World) : Calls Tryz.prog 93 #[.agg #[.string ⟨#[]⟩, .string ⟨#[99, 108, 111, 115, 101]⟩, .string ⟨#[101, 120, 112, 105, 114, 121]⟩, .string ⟨#[99, 111, 108, 108, 101, 99, 116]⟩], .string s] w fun e w' => e = .returned (.int .i64 (wwhy s.data.toList)) ∧ Below w.heap.size w w' := by
  have i0 : ∀ w, (Instr.index 84 (.agg #[.string ⟨#[]⟩, .string ⟨#[99, 108, 111, 115, 101]⟩, .string ⟨#[101, 120, 112, 105, 114, 121]⟩, .string ⟨#[99, 111, 108, 108, 101, 99, 116]⟩]) (.int .i64 0)).run Tryz.prog w = .ok (.string ⟨#[]⟩) w := fun _ => by kernel_rfl
  have i1 : ∀ w, (Instr.index 84 (.agg #[.string ⟨#[]⟩, .string ⟨#[99, 108, 111, 115, 101]⟩, .string ⟨#[101, 120, 112, 105, 114, 121]⟩, .string ⟨#[99, 111, 108, 108, 101, 99, 116]⟩]) (.int .i64 1)).run Tryz.prog w = .ok (.string ⟨#[99, 108, 111, 115, 101]⟩) w := fun _ => by kernel_rfl
  have i2 : ∀ w, (Instr.index 84 (.agg #[.string ⟨#[]⟩, .string ⟨#[99, 108, 111, 115, 101]⟩, .string ⟨#[101, 120, 112, 105, 114, 121]⟩, .string ⟨#[99, 111, 108, 108, 101, 99, 116]⟩]) (.int .i64 2)).run Tryz.prog w = .ok (.string ⟨#[101, 120, 112, 105, 114, 121]⟩) w := fun _ => by kernel_rfl
  have i3 : ∀ w, (Instr.index 84 (.agg #[.string ⟨#[]⟩, .string ⟨#[99, 108, 111, 115, 101]⟩, .string ⟨#[101, 120, 112, 105, 114, 121]⟩, .string ⟨#[99, 111, 108, 108, 101, 99, 116]⟩]) (.int .i64 3)).run Tryz.prog w = .ok (.string ⟨#[99, 111, 108, 108, 101, 99, 116]⟩) w := fun _ => by kernel_rfl
  by_cases h0 : s.data.toList = []
  · have e0 : (([] : List UInt8) == s.toList) = true := by rw [ByteArray.toList_eq, h0]; rfl
    have hr : Hid (wwhy s.data.toList = 0) := by unfold Hid wwhy wnum; rw [h0]; decide
    clear h0
    go_enter Tryz.func93, Tryz.ntmps93
    go_wp2
    refine wp_loop_rounds 5 ?_
    rw [rounds_succ]
    go_wp2
    go_ret
    exact ⟨by rw [hr.out]; rfl, bel_new _ _⟩
  by_cases h1 : s.data.toList = [99, 108, 111, 115, 101]
  · have e0 : (([] : List UInt8) == s.toList) = false := by rw [beq_eq_false_iff_ne, ByteArray.toList_eq]; exact fun e => h0 e.symm
    have e1 : (([99, 108, 111, 115, 101] : List UInt8) == s.toList) = true := by rw [ByteArray.toList_eq, h1]; rfl
    have hr : Hid (wwhy s.data.toList = 1) := by unfold Hid wwhy wnum; rw [h1]; decide
    clear h0 h1
    go_enter Tryz.func93, Tryz.ntmps93
    go_wp2
    refine wp_loop_rounds 5 ?_
    rw [rounds_succ]
    go_wp2
    rw [rounds_succ]
    go_wp2
    go_ret
    exact ⟨by rw [hr.out]; rfl, bel_new _ _⟩
  by_cases h2 : s.data.toList = [101, 120, 112, 105, 114, 121]
  · have e0 : (([] : List UInt8) == s.toList) = false := by rw [beq_eq_false_iff_ne, ByteArray.toList_eq]; exact fun e => h0 e.symm
    have e1 : (([99, 108, 111, 115, 101] : List UInt8) == s.toList) = false := by rw [beq_eq_false_iff_ne, ByteArray.toList_eq]; exact fun e => h1 e.symm
    have e2 : (([101, 120, 112, 105, 114, 121] : List UInt8) == s.toList) = true := by rw [ByteArray.toList_eq, h2]; rfl
    have hr : Hid (wwhy s.data.toList = 2) := by unfold Hid wwhy wnum; rw [h2]; decide
    clear h0 h1 h2
    go_enter Tryz.func93, Tryz.ntmps93
    go_wp2
    refine wp_loop_rounds 5 ?_
    rw [rounds_succ]
    go_wp2
    rw [rounds_succ]
    go_wp2
    rw [rounds_succ]
    go_wp2
    go_ret
    exact ⟨by rw [hr.out]; rfl, bel_new _ _⟩
  by_cases h3 : s.data.toList = [99, 111, 108, 108, 101, 99, 116]
  · have e0 : (([] : List UInt8) == s.toList) = false := by rw [beq_eq_false_iff_ne, ByteArray.toList_eq]; exact fun e => h0 e.symm
    have e1 : (([99, 108, 111, 115, 101] : List UInt8) == s.toList) = false := by rw [beq_eq_false_iff_ne, ByteArray.toList_eq]; exact fun e => h1 e.symm
    have e2 : (([101, 120, 112, 105, 114, 121] : List UInt8) == s.toList) = false := by rw [beq_eq_false_iff_ne, ByteArray.toList_eq]; exact fun e => h2 e.symm
    have e3 : (([99, 111, 108, 108, 101, 99, 116] : List UInt8) == s.toList) = true := by rw [ByteArray.toList_eq, h3]; rfl
    have hr : Hid (wwhy s.data.toList = 3) := by unfold Hid wwhy wnum; rw [h3]; decide
    clear h0 h1 h2 h3
    go_enter Tryz.func93, Tryz.ntmps93
    go_wp2
    refine wp_loop_rounds 5 ?_
    rw [rounds_succ]
    go_wp2
    rw [rounds_succ]
    go_wp2
    rw [rounds_succ]
    go_wp2
    rw [rounds_succ]
    go_wp2
    go_ret
    exact ⟨by rw [hr.out]; rfl, bel_new _ _⟩
  have e0 : (([] : List UInt8) == s.toList) = false := by rw [beq_eq_false_iff_ne, ByteArray.toList_eq]; exact fun e => h0 e.symm
  have e1 : (([99, 108, 111, 115, 101] : List UInt8) == s.toList) = false := by rw [beq_eq_false_iff_ne, ByteArray.toList_eq]; exact fun e => h1 e.symm
  have e2 : (([101, 120, 112, 105, 114, 121] : List UInt8) == s.toList) = false := by rw [beq_eq_false_iff_ne, ByteArray.toList_eq]; exact fun e => h2 e.symm
  have e3 : (([99, 111, 108, 108, 101, 99, 116] : List UInt8) == s.toList) = false := by rw [beq_eq_false_iff_ne, ByteArray.toList_eq]; exact fun e => h3 e.symm
  have hr : Hid (wwhy s.data.toList = 0) := by unfold Hid wwhy wnum; rw [if_neg h1, if_neg h2, if_neg h3]
  clear h0 h1 h2 h3
  go_enter Tryz.func93, Tryz.ntmps93
  go_wp2
  refine wp_loop_rounds 5 ?_
  rw [rounds_succ]
  go_wp2
  rw [rounds_succ]
  go_wp2
  rw [rounds_succ]
  go_wp2
  rw [rounds_succ]
  go_wp2
  rw [rounds_succ]
  go_wp2
  go_ret
  exact ⟨by rw [hr.out]; rfl, bel_new _ _⟩
def wans (s : List UInt8) : Int := wnum [111, 107] [108, 97, 116, 101, 114] [102, 97, 105, 108] s
set_option maxRecDepth 100000 in
set_option maxHeartbeats 2000000 in
theorem number_ans (s : ByteArray) (w : World) : Calls Tryz.prog 93 #[.agg #[.string ⟨#[]⟩, .string ⟨#[111, 107]⟩, .string ⟨#[108, 97, 116, 101, 114]⟩, .string ⟨#[102, 97, 105, 108]⟩], .string s] w fun e w' => e = .returned (.int .i64 (wans s.data.toList)) ∧ Below w.heap.size w w' := by
  have i0 : ∀ w, (Instr.index 84 (.agg #[.string ⟨#[]⟩, .string ⟨#[111, 107]⟩, .string ⟨#[108, 97, 116, 101, 114]⟩, .string ⟨#[102, 97, 105, 108]⟩]) (.int .i64 0)).run Tryz.prog w = .ok (.string ⟨#[]⟩) w := fun _ => by kernel_rfl
  have i1 : ∀ w, (Instr.index 84 (.agg #[.string ⟨#[]⟩, .string ⟨#[111, 107]⟩, .string ⟨#[108, 97, 116, 101, 114]⟩, .string ⟨#[102, 97, 105, 108]⟩]) (.int .i64 1)).run Tryz.prog w = .ok (.string ⟨#[111, 107]⟩) w := fun _ => by kernel_rfl
  have i2 : ∀ w, (Instr.index 84 (.agg #[.string ⟨#[]⟩, .string ⟨#[111, 107]⟩, .string ⟨#[108, 97, 116, 101, 114]⟩, .string ⟨#[102, 97, 105, 108]⟩]) (.int .i64 2)).run Tryz.prog w = .ok (.string ⟨#[108, 97, 116, 101, 114]⟩) w := fun _ => by kernel_rfl
  have i3 : ∀ w, (Instr.index 84 (.agg #[.string ⟨#[]⟩, .string ⟨#[111, 107]⟩, .string ⟨#[108, 97, 116, 101, 114]⟩, .string ⟨#[102, 97, 105, 108]⟩]) (.int .i64 3)).run Tryz.prog w = .ok (.string ⟨#[102, 97, 105, 108]⟩) w := fun _ => by kernel_rfl
  by_cases h0 : s.data.toList = []
  · have e0 : (([] : List UInt8) == s.toList) = true := by rw [ByteArray.toList_eq, h0]; rfl
    have hr : Hid (wans s.data.toList = 0) := by unfold Hid wans wnum; rw [h0]; decide
    clear h0
    go_enter Tryz.func93, Tryz.ntmps93
    go_wp2
    refine wp_loop_rounds 5 ?_
    rw [rounds_succ]
    go_wp2
    go_ret
    exact ⟨by rw [hr.out]; rfl, bel_new _ _⟩
  by_cases h1 : s.data.toList = [111, 107]
  · have e0 : (([] : List UInt8) == s.toList) = false := by rw [beq_eq_false_iff_ne, ByteArray.toList_eq]; exact fun e => h0 e.symm
    have e1 : (([111, 107] : List UInt8) == s.toList) = true := by rw [ByteArray.toList_eq, h1]; rfl
    have hr : Hid (wans s.data.toList = 1) := by unfold Hid wans wnum; rw [h1]; decide
    clear h0 h1
    go_enter Tryz.func93, Tryz.ntmps93
    go_wp2
    refine wp_loop_rounds 5 ?_
    rw [rounds_succ]
    go_wp2
    rw [rounds_succ]
    go_wp2
    go_ret
    exact ⟨by rw [hr.out]; rfl, bel_new _ _⟩
  by_cases h2 : s.data.toList = [108, 97, 116, 101, 114]
  · have e0 : (([] : List UInt8) == s.toList) = false := by rw [beq_eq_false_iff_ne, ByteArray.toList_eq]; exact fun e => h0 e.symm
    have e1 : (([111, 107] : List UInt8) == s.toList) = false := by rw [beq_eq_false_iff_ne, ByteArray.toList_eq]; exact fun e => h1 e.symm
    have e2 : (([108, 97, 116, 101, 114] : List UInt8) == s.toList) = true := by rw [ByteArray.toList_eq, h2]; rfl
    have hr : Hid (wans s.data.toList = 2) := by unfold Hid wans wnum; rw [h2]; decide
    clear h0 h1 h2
    go_enter Tryz.func93, Tryz.ntmps93
    go_wp2
    refine wp_loop_rounds 5 ?_
    rw [rounds_succ]
    go_wp2
    rw [rounds_succ]
    go_wp2
    rw [rounds_succ]
    go_wp2
    go_ret
    exact ⟨by rw [hr.out]; rfl, bel_new _ _⟩
  by_cases h3 : s.data.toList = [102, 97, 105, 108]
  · have e0 : (([] : List UInt8) == s.toList) = false := by rw [beq_eq_false_iff_ne, ByteArray.toList_eq]; exact fun e => h0 e.symm
    have e1 : (([111, 107] : List UInt8) == s.toList) = false := by rw [beq_eq_false_iff_ne, ByteArray.toList_eq]; exact fun e => h1 e.symm
    have e2 : (([108, 97, 116, 101, 114] : List UInt8) == s.toList) = false := by rw [beq_eq_false_iff_ne, ByteArray.toList_eq]; exact fun e => h2 e.symm
    have e3 : (([102, 97, 105, 108] : List UInt8) == s.toList) = true := by rw [ByteArray.toList_eq, h3]; rfl
    have hr : Hid (wans s.data.toList = 3) := by unfold Hid wans wnum; rw [h3]; decide
    clear h0 h1 h2 h3
    go_enter Tryz.func93, Tryz.ntmps93
    go_wp2
    refine wp_loop_rounds 5 ?_
    rw [rounds_succ]
    go_wp2
    rw [rounds_succ]
    go_wp2
    rw [rounds_succ]
    go_wp2
    rw [rounds_succ]
    go_wp2
    go_ret
    exact ⟨by rw [hr.out]; rfl, bel_new _ _⟩
  have e0 : (([] : List UInt8) == s.toList) = false := by rw [beq_eq_false_iff_ne, ByteArray.toList_eq]; exact fun e => h0 e.symm
  have e1 : (([111, 107] : List UInt8) == s.toList) = false := by rw [beq_eq_false_iff_ne, ByteArray.toList_eq]; exact fun e => h1 e.symm
  have e2 : (([108, 97, 116, 101, 114] : List UInt8) == s.toList) = false := by rw [beq_eq_false_iff_ne, ByteArray.toList_eq]; exact fun e => h2 e.symm
  have e3 : (([102, 97, 105, 108] : List UInt8) == s.toList) = false := by rw [beq_eq_false_iff_ne, ByteArray.toList_eq]; exact fun e => h3 e.symm
  have hr : Hid (wans s.data.toList = 0) := by unfold Hid wans wnum; rw [if_neg h1, if_neg h2, if_neg h3]
  clear h0 h1 h2 h3
  go_enter Tryz.func93, Tryz.ntmps93
  go_wp2
  refine wp_loop_rounds 5 ?_
  rw [rounds_succ]
  go_wp2
  rw [rounds_succ]
  go_wp2
  rw [rounds_succ]
  go_wp2
  rw [rounds_succ]
  go_wp2
  rw [rounds_succ]
  go_wp2
  go_ret
  exact ⟨by rw [hr.out]; rfl, bel_new _ _⟩
end Go.Proofs.YtenggngcigkakaaGreatDoor
