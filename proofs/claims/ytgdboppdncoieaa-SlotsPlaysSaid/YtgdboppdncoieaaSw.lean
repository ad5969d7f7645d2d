/- The examples of the chapter hold: works returns true. -/
import Derived.Test.YtgdboppdncoieaaSt
namespace Go.Proofs.Ytgdboppdncoieaa
open Go.RowKit

/-- Take, at what it answers. -/
theorem take_s (b : Nat) (T : Tb) (i g : Nat) (E : Int) (w : World) (h : TabW w b T) (e1 : T.tI = i) (e2 : T.tG = g) (e3 : T.tE = E) : Calls Try.prog 14 #[.pointer (some ⟨b, 0, none⟩)] w fun e w' => e = .returned (.tuple #[.agg #[.int .i64 i, .int .u32 g], .int .i64 E]) ∧ TabW w' b T.take ∧ Kept (· = b) w w' := by
  subst e1 e2 e3
  exact take_ok b T w h
theorem give_s (b : Nat) (T : Tb) (i g E : Int) (w : World) (h : TabW w b T) (e : T.chk i g = E) : Calls Try.prog 18 #[.pointer (some ⟨b, 0, none⟩), .agg #[.int .i64 i, .int .u32 g]] w fun e w' => e = .returned (.int .i64 E) ∧ TabW w' b (T.given i g) ∧ Kept (· = b) w w' := by
  subst e
  exact give_any b T i g w h
theorem check_s (b : Nat) (T : Tb) (i g E : Int) (w : World) (h : TabW w b T) (e : T.chk i g = E) : Calls Try.prog 16 #[.pointer (some ⟨b, 0, none⟩), .agg #[.int .i64 i, .int .u32 g]] w fun e w' => e = .returned (.int .i64 E) ∧ Below w.heap.size w w' := by
  subst e
  exact check_any b T i g w h

theorem kept_bel {w0 w w' : World} {b : Nat} (hB : Below w0.heap.size w0 w) (k : Kept (· = b) w w') (hb : w0.heap.size ≤ b) : Below w0.heap.size w0 w' :=
  hB.trans (k.below hB.size (fun i e => by omega))
/-- The table of the examples, and what the blocks below n that hold references are: nothing has turned but the table. -/
structure WSt (w0 w : World) (b : Nat) (T : Tb) : Prop where
  t : TabW w b T
  bel : Below w0.heap.size w0 w
  lb : w0.heap.size ≤ b
theorem WSt.quiet {w0 w w' : World} {b : Nat} {T : Tb} (h : WSt w0 w b T) (k : Below w.heap.size w w') : WSt w0 w' b T := ⟨h.t.below k, bel2 h.bel k, h.lb⟩
theorem WSt.step {w0 w w' : World} {b : Nat} {T U : Tb} (h : WSt w0 w b T) (k : Kept (· = b) w w') (ht : TabW w' b U) : WSt w0 w' b U := ⟨ht, kept_bel h.bel k h.lb, h.lb⟩

def E0 : Tb := fresh 2 4294967294
def E1 : Tb := E0.take
def E2 : Tb := E1.take
def E3 : Tb := E2.take
def E4 : Tb := E3.given 0 4294967294
def E5 : Tb := E4.take
def E6 : Tb := E5.given 0 4294967295

set_option maxRecDepth 100000 in
set_option maxHeartbeats 4000000 in
theorem works_ok (w : World) : Calls Try.prog 11 #[] w fun e w' => e = .returned (.bool true) ∧ Below w.heap.size w w' := by
  go_enter Try.func11, Try.ntmps11
  go_wp2_with fail
  refine (new_ok 2 4294967294 _ (by decide) (by decide) (by decide) (by decide)).mono ?_
  rintro e w1 ⟨rfl, ht, hb⟩
  have S1 : Hid (WSt w w1 w.heap.size E0) := ⟨ht, hb, Nat.le_refl _⟩
  clear ht hb
  obtain ⟨b, hb⟩ : ∃ b, w.heap.size = b := ⟨_, rfl⟩
  rw [hb] at S1
  rw [hb]
  have HB := Lib.hid hb
  clear hb
  go_wp2_with fail
  refine (take_s b E0 0 4294967294 0 _ S1.out.t rfl rfl rfl).mono ?_
  rintro e w2 ⟨rfl, ht, hk⟩
  have S2 : Hid (WSt w (w2.alloc (.cells #[.int .i64 0, .int .u32 4294967294] 33)) b E1) := (S1.out.step hk ht).quiet ((Below.refl _ w2).alloc (Nat.le_refl _) _)
  have A2 := Lib.hid (Bk.new w2 33 #[.int .i64 0, .int .u32 4294967294])
  have N2 : Hid (w2.heap.size ≠ b) := by have := (S1.out.step hk ht).t.bt; unfold Hid; omega
  clear ht hk S1
  go_wp2_with fail
  generalize w2.heap.size = A at *
  generalize w2.alloc (.cells #[.int .i64 0, .int .u32 4294967294] 33) = w3 at *
  refine (take_s b E1 1 4294967294 0 _ S2.out.t rfl rfl rfl).mono ?_
  rintro e w4 ⟨rfl, ht, hk⟩
  have hal : Below w4.heap.size w4 (w4.alloc (.cells #[.int .i64 1, .int .u32 4294967294] 33)) := (Below.refl _ w4).alloc (Nat.le_refl _) _
  have S4 := Lib.hid ((S2.out.step hk ht).quiet hal)
  have A4 := Lib.hid ((A2.out.kept hk N2.out).below hal)
  have B4 := Lib.hid (Bk.new w4 33 #[.int .i64 1, .int .u32 4294967294])
  have M4 : Hid (w4.heap.size ≠ b) := by have := (S2.out.step hk ht).t.bt; unfold Hid; omega
  clear ht hk hal S2 A2
  go_wp2_with fail
  generalize w4.heap.size = B at *
  generalize w4.alloc (.cells #[.int .i64 1, .int .u32 4294967294] 33) = w5 at *
  refine (take_s b E2 0 0 4 _ S4.out.t rfl rfl rfl).mono ?_
  rintro e w6 ⟨rfl, ht, hk⟩
  have hal : Below w6.heap.size w6 (w6.alloc (.cells #[.int .i64 0, .int .u32 0] 33)) := (Below.refl _ w6).alloc (Nat.le_refl _) _
  have S6 := Lib.hid ((S4.out.step hk ht).quiet hal)
  have A6 := Lib.hid ((A4.out.kept hk N2.out).below hal)
  have B6 := Lib.hid ((B4.out.kept hk M4.out).below hal)
  have a0 : w6.cell? ⟨A, 0, none⟩ = some (.int .i64 0) := (A4.out.kept hk N2.out).cell 0
  have a1 : w6.cell? ⟨A, 1, none⟩ = some (.int .u32 4294967294) := (A4.out.kept hk N2.out).cell 1
  have b0 : w6.cell? ⟨B, 0, none⟩ = some (.int .i64 1) := (B4.out.kept hk M4.out).cell 0
  have hla := (A4.out.kept hk N2.out).lt
  have hlb := (B4.out.kept hk M4.out).lt
  clear ht hk hal S4 A4 B4
  go_wp2_with fail
  clear a0 a1 b0 hla hlb
  generalize w6.heap.size = C at *
  generalize w6.alloc (.cells #[.int .i64 0, .int .u32 0] 33) = w7 at *
  refine (give_s b E3 0 4294967294 0 _ S6.out.t rfl).mono ?_
  rintro e w8 ⟨rfl, ht, hk⟩
  have S8 : Hid (WSt w w8 b E4) := S6.out.step hk ht
  have A8 := Lib.hid (A6.out.kept hk N2.out)
  clear ht hk S6 A6 B6
  go_wp2_with fail
  refine (take_s b E4 0 4294967295 0 _ S8.out.t rfl rfl rfl).mono ?_
  rintro e w9 ⟨rfl, ht, hk⟩
  have hal : Below w9.heap.size w9 (w9.alloc (.cells #[.int .i64 0, .int .u32 4294967295] 33)) := (Below.refl _ w9).alloc (Nat.le_refl _) _
  have S9 := Lib.hid ((S8.out.step hk ht).quiet hal)
  have C9 := Lib.hid (Bk.new w9 33 #[.int .i64 0, .int .u32 4294967295])
  have a0 : w9.cell? ⟨A, 0, none⟩ = some (.int .i64 0) := (A8.out.kept hk N2.out).cell 0
  have a1 : w9.cell? ⟨A, 1, none⟩ = some (.int .u32 4294967294) := (A8.out.kept hk N2.out).cell 1
  have hla := (A8.out.kept hk N2.out).lt
  clear ht hk hal S8 A8
  go_wp2_with fail
  clear a0 a1 hla
  generalize w9.heap.size = D at *
  generalize w9.alloc (.cells #[.int .i64 0, .int .u32 4294967295] 33) = w10 at *
  refine (check_s b E5 0 4294967294 7 _ S9.out.t rfl).mono ?_
  rintro e w11 ⟨rfl, hb11⟩
  have S11 := Lib.hid (S9.out.quiet hb11)
  have c0 : w11.cell? ⟨D, 0, none⟩ = some (.int .i64 0) := (C9.out.below hb11).cell 0
  have c1 : w11.cell? ⟨D, 1, none⟩ = some (.int .u32 4294967295) := (C9.out.below hb11).cell 1
  clear hb11 S9 C9
  go_wp2_with fail
  clear c0 c1
  refine (give_s b E5 0 4294967295 0 _ S11.out.t rfl).mono ?_
  rintro e w12 ⟨rfl, ht, hk⟩
  have S12 : Hid (WSt w w12 b E6) := S11.out.step hk ht
  clear ht hk S11
  go_wp2_with fail
  refine (retired_ok b E6 _ S12.out.t).mono ?_
  rintro e w13 ⟨rfl, hb13⟩
  have S13 := Lib.hid (S12.out.quiet hb13)
  have e1 : E6.gone.length = 1 := rfl
  rw [e1]
  clear e1 hb13 S12
  go_wp2_with fail
  refine (len_ok b E6 _ S13.out.t).mono ?_
  rintro e w14 ⟨rfl, hb14⟩
  have S14 := Lib.hid (S13.out.quiet hb14)
  have e1 : E6.held.length = 1 := rfl
  rw [e1]
  clear e1 hb14 S13
  go_wp2_with fail
  refine (free_ok b E6 _ S14.out.t).mono ?_
  rintro e w15 ⟨rfl, hb15⟩
  have S15 := Lib.hid (S14.out.quiet hb15)
  have e1 : E6.free.length = 0 := rfl
  rw [e1]
  clear e1 hb15 S14
  go_wp2
  go_ret
  exact ⟨rfl, S15.out.bel⟩
end Go.Proofs.Ytgdboppdncoieaa
