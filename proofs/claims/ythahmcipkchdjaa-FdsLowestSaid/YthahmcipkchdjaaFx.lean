/- The contract of the helper begun, that the statements about files share. -/
import Derived.Test.YthahmcipkchdjaaFv
namespace Go.Proofs.Ythahmcipkchdjaa
open Go.RowKit

/-- What begun answers: a new table. -/
def BgP (n g : Nat) (w : World) (e : Ending) (w' : World) : Prop := ∃ b k m, e = .returned (.tuple #[.pointer (some ⟨b, 0, none⟩), .int .i64 n, .bool true]) ∧ Hid (FSt w w' b k m (ffresh n g))
set_option maxHeartbeats 1000000 in
theorem begun_ok (s g : Nat) (w : World) (hs : s ≤ 255) (hg : g ≤ 4294967295) : Calls Try.prog 21 #[.int .u8 s, .int .u32 g] w (BgP (1 + s % 64) (max g 1) w) := by
  have NW := Lib.hid (fnew_ok (1 + s % 64) (max g 1) w (by omega) (by omega) (by omega) (by omega))
  have hm : max (g : Int) 1 = ((max g 1 : Nat) : Int) := by omega
  have hm2 : (1 : Int) + (s : Int) % 64 = ((1 + s % 64 : Nat) : Int) := by omega
  have hq : ((1 + s % 64 : Nat) : Int) ≤ 64 := by omega
  have hq0 : (0 : Int) ≤ (1 + s % 64 : Nat) := by omega
  have h5 : (0 : Int) ≤ (s : Int) % 64 ∧ (s : Int) % 64 ≤ 63 := by omega
  obtain ⟨h6, h7⟩ := h5
  generalize 1 + s % 64 = n at *
  generalize max g 1 = q at *
  go_enter Try.func21, Try.ntmps21
  go_wp2_with (go_at_call 11; refine NW.out.mono ?_; rintro e w1 ⟨b, rfl, hf⟩; have HF := Lib.hid hf; clear hf)
  obtain ⟨k, m, h⟩ := FSt.new HF.out
  exact bodyPost_ret (v := .tuple #[.pointer (some ⟨b, 0, none⟩), .int .i64 n, .bool true]) (by simp [results, Try.results21, go_sem]) rfl ⟨b, k, m, rfl, h⟩

/-! ### the lowest free id -/
theorem free_head {T : Tb} {i : Nat} (h : ∀ j, j < i → T.s j ≠ 0) (h0 : T.s i = 0) (hi : i < T.n) : ∃ r, T.free = i :: r := by
  have key : ∀ d j, j + d = i → selFrom T.s 0 j T.n = selFrom T.s 0 i T.n := by
    intro d
    induction d with
    | zero => intro j e; rw [Nat.add_zero] at e; rw [e]
    | succ d ih => intro j e; rw [selFrom_step T.s 0 (show j < T.n by omega), if_neg (h j (by omega)), List.nil_append]; exact ih (j + 1) (by omega)
  refine ⟨selFrom T.s 0 (i + 1) T.n, ?_⟩
  unfold Tb.free
  rw [← selFrom_zero, key i 0 (by omega), selFrom_step T.s 0 hi, if_pos h0]; rfl
theorem free_none {T : Tb} (h : ∀ j, j < T.n → T.s j ≠ 0) : T.free = [] := by
  unfold Tb.free
  rw [List.eq_nil_iff_forall_not_mem]
  intro i hi
  exact h i (mem_sel.1 hi).1 (mem_sel.1 hi).2
theorem held_none {T : Tb} (h : ∀ j, j < T.n → T.s j ≠ 1) : T.held = [] := by
  unfold Tb.held
  rw [List.eq_nil_iff_forall_not_mem]
  intro i hi
  exact h i (mem_sel.1 hi).1 (mem_sel.1 hi).2
/-- What Open answers where i is the lowest free id. -/
theorem Fb.opn_at {F : Fb} {i : Nat} {r : List Nat} (h : F.t.free = i :: r) (x : Nat) : F.oK = 1 ∧ F.oI = i ∧ F.oG = F.t.g i ∧ F.oE = 0 ∧ F.opn x = F.opened i x := by
  unfold Fb.oK Fb.oI Fb.oG Fb.oE Fb.opn
  rw [h]
  exact ⟨rfl, rfl, rfl, rfl, rfl⟩
theorem Fb.opn_full {F : Fb} (h : F.t.free = []) (x : Nat) : F.oK = 0 ∧ F.oI = 0 ∧ F.oG = 0 ∧ F.oE = 4 ∧ F.opn x = F := by
  unfold Fb.oK Fb.oI Fb.oG Fb.oE Fb.opn
  rw [h]
  exact ⟨rfl, rfl, rfl, rfl, rfl⟩
/-- Opening an id, and what is said of it then. -/
theorem Fb.chk_opened {F : Fb} (hF : F.Ok) {i : Nat} (hi : i < F.t.n) (x : Nat) : (F.opened i x).chk 1 i (F.t.g i) = 0 := by
  have h1 : (F.opened i x).t.s i = 1 := by simp [Fb.opened, Tb.took, put_same]
  have hh := hF.hi
  have hg := hF.t.g1 i hi
  unfold Fb.chk
  rw [if_pos ⟨rfl, by omega, by omega, by omega⟩]
  exact Tb.chk_held (T := F.t.took i) hi h1
theorem Fb.closed_of {F : Fb} {i : Nat} {g : Int} (h : F.chk 1 i g = 0) : F.closed 1 i g = F.close i := by
  unfold Fb.closed; rw [if_pos h]; rfl
end Go.Proofs.Ythahmcipkchdjaa
