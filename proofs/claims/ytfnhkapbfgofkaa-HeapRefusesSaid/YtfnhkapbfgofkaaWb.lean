/- The contracts of the program's found where the name is refused; of Object with its closure; of Has and storable. -/
import Derived.Test.YtfnhkapbfgofkaaWa
import Derived.Deep.Cut
import Derived.Deep.RegionHeld3
import Derived.Deep.RegionWith
namespace Go.Proofs.Ytfnhkapbfgofkaa
open Go.RowKit

theorem bel_drew {a w : World} {B : Nat} (h : Below B a w) : Below B a w.drew := ⟨h.os, h.tape, h.output, h.size, h.block⟩
/-- Check of the heap's table, wherever the call goes on. -/
theorem hcheck (b p t : Nat) (H : Hp) (r : Rf) (E : Int) (hE : H.chk r = E) (w : World) (h : HW w b p t H) : ∀ W, Below w.heap.size w W → Calls Try.prog 68 #[.pointer (some ⟨t, 0, none⟩), .agg #[.int .i64 r.1, .int .u32 r.2]] W fun e w' => e = .returned (.int .i64 E) ∧ Below W.heap.size W w' := fun W hW => by
  have := check_any t H.t r.1 r.2 W (h.tab.below hW)
  rw [show H.t.chk r.1 r.2 = E from hE] at this
  exact this
set_option maxHeartbeats 1000000 in
theorem found_err (b p t : Nat) (H : Hp) (r : Rf) (hr : H.chk r ≠ 0) (f : Value) (w : World) (h : HW w b p t H) : Calls Try.prog 41 #[.pointer (some ⟨b, 0, none⟩), .agg #[.int .i64 r.1, .int .u32 r.2], f] w fun e w' => e = .returned (.int .i64 (H.chk r)) ∧ Below w.heap.size w w' := by
  have CK := Lib.hid (hcheck b p t H r _ rfl w h)
  have hE : (H.chk r != 0) = true := by simpa using hr
  obtain ⟨E, hE2⟩ : ∃ E, H.chk r = E := ⟨_, rfl⟩
  rw [hE2] at CK hE ⊢
  obtain ⟨s, g⟩ := r
  simp only at CK ⊢
  have k0 := h.c0
  have k1 := h.cp
  have S0 : (w.alloc (.cells #[.int .i64 s, .int .u32 g] 34)).cell? ⟨b, 0, none⟩ = some (.pointer (some ⟨p, 0, none⟩)) ∧ (w.alloc (.cells #[.int .i64 s, .int .u32 g] 34)).cell? ⟨p, 0, none⟩ = some (.pointer (some ⟨t, 0, none⟩)) ∧ (w.alloc (.cells #[.int .i64 s, .int .u32 g] 34)).cell? ⟨w.heap.size, 0, none⟩ = some (.int .i64 s) ∧ (w.alloc (.cells #[.int .i64 s, .int .u32 g] 34)).cell? ⟨w.heap.size, 1, none⟩ = some (.int .u32 g) := by
    have hn := Bk.new w 34 #[.int .i64 s, .int .u32 g]
    exact ⟨cell_stays (bel_new _ _) k0, cell_stays (bel_new _ _) k1, hn.cell 0, hn.cell 1⟩
  have B0 := Lib.hid (bel_drew (bel_new w (.cells #[.int .i64 s, .int .u32 g] 34)))
  clear h hr hE2 k0 k1
  go_enter Try.func41, Try.ntmps41
  go_upto_region 1 with fail
  generalize (w.alloc (.cells #[.int .i64 s, .int .u32 g] 34)) = w4 at *
  obtain ⟨s0, s1, s2, s3⟩ := S0
  go_region_held3 (fun W => W.cell? ⟨b, 0, none⟩ = some (.pointer (some ⟨p, 0, none⟩)) ∧ W.cell? ⟨p, 0, none⟩ = some (.pointer (some ⟨t, 0, none⟩)) ∧ W.cell? ⟨w.heap.size, 0, none⟩ = some (.int .i64 s) ∧ W.cell? ⟨w.heap.size, 1, none⟩ = some (.int .u32 g)) (first | (exact ⟨s0, s1, s2, s3⟩) | (with_reducible exact hz1)) (first
    | (go_at_call 59; refine (htable_yes b p t w4.drew s0 s1).mono ?_; rintro e w5 ⟨rfl, rfl⟩; have hz1 := And.intro s0 (And.intro s1 (And.intro s2 s3)))
    | (go_at_call 68; (with_reducible refine (CK.out _ B0.out).mono ?_); rintro e w5 ⟨rfl, hb5⟩; have HB5 := Lib.hid (bel2 B0.out hb5); have hz1 := And.intro (cell_stays hb5 s0) (And.intro (cell_stays hb5 s1) (And.intro (cell_stays hb5 s2) (cell_stays hb5 s3))); clear hb5))
  all_goals
    go_wp2
    go_ret
    exact ⟨rfl, HB5.out⟩
set_option maxHeartbeats 2000000 in
theorem found_obj (b p t k : Nat) (H : Hp) (g : Int) (f0 : Value) (E : Int) (P : World → World → Prop) (w : World) (h : HW w b p t H) (hk : k < H.t.n) (hr : H.chk ((k : Int), g) = 0)
    (hcl : ∀ W, Below w.heap.size w W → Calls Try.prog 58 #[.pointer (some ⟨p, 1 + k * 10, none⟩), f0] W fun e w' => e = .returned (.int .i64 E) ∧ P W w') :
    Calls Try.prog 41 #[.pointer (some ⟨b, 0, none⟩), .agg #[.int .i64 k, .int .u32 g], .func (.func 58) #[] #[f0]] w fun e w' => e = .returned (.int .i64 E) ∧ ∃ W, Below w.heap.size w W ∧ P W w' := by
  have CK := Lib.hid (hcheck b p t H ((k : Int), g) 0 hr w h)
  have CL := Lib.hid hcl
  have hn := h.ok.t.hi
  have hk2 : (k : Int) < 256 := by omega
  have k0 := h.c0
  have k1 := h.cp
  have S0 : (w.alloc (.cells #[.int .i64 k, .int .u32 g] 34)).cell? ⟨b, 0, none⟩ = some (.pointer (some ⟨p, 0, none⟩)) ∧ (w.alloc (.cells #[.int .i64 k, .int .u32 g] 34)).cell? ⟨p, 0, none⟩ = some (.pointer (some ⟨t, 0, none⟩)) ∧ (w.alloc (.cells #[.int .i64 k, .int .u32 g] 34)).cell? ⟨w.heap.size, 0, none⟩ = some (.int .i64 k) ∧ (w.alloc (.cells #[.int .i64 k, .int .u32 g] 34)).cell? ⟨w.heap.size, 1, none⟩ = some (.int .u32 g) := by
    have hn := Bk.new w 34 #[.int .i64 k, .int .u32 g]
    exact ⟨cell_stays (bel_new _ _) k0, cell_stays (bel_new _ _) k1, hn.cell 0, hn.cell 1⟩
  have B0 := Lib.hid (bel_drew (bel_new w (.cells #[.int .i64 k, .int .u32 g] 34)))
  clear h hr hcl k0 k1 hk hn
  go_enter Try.func41, Try.ntmps41
  go_upto_region 1 with fail
  generalize (w.alloc (.cells #[.int .i64 k, .int .u32 g] 34)) = w4 at *
  obtain ⟨s0, s1, s2, s3⟩ := S0
  go_region_held3 (fun W => W.cell? ⟨b, 0, none⟩ = some (.pointer (some ⟨p, 0, none⟩)) ∧ W.cell? ⟨p, 0, none⟩ = some (.pointer (some ⟨t, 0, none⟩)) ∧ W.cell? ⟨w.heap.size, 0, none⟩ = some (.int .i64 k) ∧ W.cell? ⟨w.heap.size, 1, none⟩ = some (.int .u32 g)) (first | (exact ⟨s0, s1, s2, s3⟩) | (with_reducible exact hz1)) (first
    | (go_at_call 59; refine (htable_yes b p t w4.drew s0 s1).mono ?_; rintro e w5 ⟨rfl, rfl⟩; have hz1 := And.intro s0 (And.intro s1 (And.intro s2 s3)))
    | (go_at_call 68; (with_reducible refine (CK.out _ B0.out).mono ?_); rintro e w5 ⟨rfl, hb5⟩; have HB5 := Lib.hid (bel_drew (bel2 B0.out hb5)); have hz1 := And.intro (cell_stays hb5 s0) (And.intro (cell_stays hb5 s1) (And.intro (cell_stays hb5 s2) (cell_stays hb5 s3))); clear hb5))
  all_goals
    obtain ⟨t0, t1, t2, t3⟩ := hz1
    go_upto_region 4 with fail
    go_region_with (go_at_call 58; refine (CL.out _ HB5.out).mono ?_; rintro e w6 ⟨rfl, HP⟩; have HZ := Lib.hid HP; clear HP)
    all_goals
      go_wp2
      go_ret
      exact ⟨rfl, _, HB5.out, HZ.out⟩
set_option maxHeartbeats 2000000 in
theorem found_free (b p t k : Nat) (H : Hp) (g : Int) (f0 f1 : Value) (E : Int) (P : World → World → Prop) (w : World) (h : HW w b p t H) (hk : k < H.t.n) (hr : H.chk ((k : Int), g) = 0)
    (hcl : ∀ W, Below w.heap.size w W → Calls Try.prog 42 #[.pointer (some ⟨p, 1 + k * 10, none⟩), f0, f1] W fun e w' => e = .returned (.int .i64 E) ∧ P W w') :
    Calls Try.prog 41 #[.pointer (some ⟨b, 0, none⟩), .agg #[.int .i64 k, .int .u32 g], .func (.func 42) #[] #[f0, f1]] w fun e w' => e = .returned (.int .i64 E) ∧ ∃ W, Below w.heap.size w W ∧ P W w' := by
  have CK := Lib.hid (hcheck b p t H ((k : Int), g) 0 hr w h)
  have CL := Lib.hid hcl
  have hn := h.ok.t.hi
  have hk2 : (k : Int) < 256 := by omega
  have k0 := h.c0
  have k1 := h.cp
  have S0 : (w.alloc (.cells #[.int .i64 k, .int .u32 g] 34)).cell? ⟨b, 0, none⟩ = some (.pointer (some ⟨p, 0, none⟩)) ∧ (w.alloc (.cells #[.int .i64 k, .int .u32 g] 34)).cell? ⟨p, 0, none⟩ = some (.pointer (some ⟨t, 0, none⟩)) ∧ (w.alloc (.cells #[.int .i64 k, .int .u32 g] 34)).cell? ⟨w.heap.size, 0, none⟩ = some (.int .i64 k) ∧ (w.alloc (.cells #[.int .i64 k, .int .u32 g] 34)).cell? ⟨w.heap.size, 1, none⟩ = some (.int .u32 g) := by
    have hn := Bk.new w 34 #[.int .i64 k, .int .u32 g]
    exact ⟨cell_stays (bel_new _ _) k0, cell_stays (bel_new _ _) k1, hn.cell 0, hn.cell 1⟩
  have B0 := Lib.hid (bel_drew (bel_new w (.cells #[.int .i64 k, .int .u32 g] 34)))
  clear h hr hcl k0 k1 hk hn
  go_enter Try.func41, Try.ntmps41
  go_upto_region 1 with fail
  generalize (w.alloc (.cells #[.int .i64 k, .int .u32 g] 34)) = w4 at *
  obtain ⟨s0, s1, s2, s3⟩ := S0
  go_region_held3 (fun W => W.cell? ⟨b, 0, none⟩ = some (.pointer (some ⟨p, 0, none⟩)) ∧ W.cell? ⟨p, 0, none⟩ = some (.pointer (some ⟨t, 0, none⟩)) ∧ W.cell? ⟨w.heap.size, 0, none⟩ = some (.int .i64 k) ∧ W.cell? ⟨w.heap.size, 1, none⟩ = some (.int .u32 g)) (first | (exact ⟨s0, s1, s2, s3⟩) | (with_reducible exact hz1)) (first
    | (go_at_call 59; refine (htable_yes b p t w4.drew s0 s1).mono ?_; rintro e w5 ⟨rfl, rfl⟩; have hz1 := And.intro s0 (And.intro s1 (And.intro s2 s3)))
    | (go_at_call 68; (with_reducible refine (CK.out _ B0.out).mono ?_); rintro e w5 ⟨rfl, hb5⟩; have HB5 := Lib.hid (bel_drew (bel2 B0.out hb5)); have hz1 := And.intro (cell_stays hb5 s0) (And.intro (cell_stays hb5 s1) (And.intro (cell_stays hb5 s2) (cell_stays hb5 s3))); clear hb5))
  all_goals
    obtain ⟨t0, t1, t2, t3⟩ := hz1
    go_upto_region 4 with fail
    go_region_with (go_at_call 42; refine (CL.out _ HB5.out).mono ?_; rintro e w6 ⟨rfl, HP⟩; have HZ := Lib.hid HP; clear HP)
    all_goals
      go_wp2
      go_ret
      exact ⟨rfl, _, HB5.out, HZ.out⟩
set_option maxHeartbeats 2000000 in
theorem found_store (b p t k : Nat) (H : Hp) (g : Int) (f0 f1 f2 f3 : Value) (E : Int) (P : World → World → Prop) (w : World) (h : HW w b p t H) (hk : k < H.t.n) (hr : H.chk ((k : Int), g) = 0)
    (hcl : ∀ W, Below w.heap.size w W → Calls Try.prog 48 #[.pointer (some ⟨p, 1 + k * 10, none⟩), f0, f1, f2, f3] W fun e w' => e = .returned (.int .i64 E) ∧ P W w') :
    Calls Try.prog 41 #[.pointer (some ⟨b, 0, none⟩), .agg #[.int .i64 k, .int .u32 g], .func (.func 48) #[] #[f0, f1, f2, f3]] w fun e w' => e = .returned (.int .i64 E) ∧ ∃ W, Below w.heap.size w W ∧ P W w' := by
  have CK := Lib.hid (hcheck b p t H ((k : Int), g) 0 hr w h)
  have CL := Lib.hid hcl
  have hn := h.ok.t.hi
  have hk2 : (k : Int) < 256 := by omega
  have k0 := h.c0
  have k1 := h.cp
  have S0 : (w.alloc (.cells #[.int .i64 k, .int .u32 g] 34)).cell? ⟨b, 0, none⟩ = some (.pointer (some ⟨p, 0, none⟩)) ∧ (w.alloc (.cells #[.int .i64 k, .int .u32 g] 34)).cell? ⟨p, 0, none⟩ = some (.pointer (some ⟨t, 0, none⟩)) ∧ (w.alloc (.cells #[.int .i64 k, .int .u32 g] 34)).cell? ⟨w.heap.size, 0, none⟩ = some (.int .i64 k) ∧ (w.alloc (.cells #[.int .i64 k, .int .u32 g] 34)).cell? ⟨w.heap.size, 1, none⟩ = some (.int .u32 g) := by
    have hn := Bk.new w 34 #[.int .i64 k, .int .u32 g]
    exact ⟨cell_stays (bel_new _ _) k0, cell_stays (bel_new _ _) k1, hn.cell 0, hn.cell 1⟩
  have B0 := Lib.hid (bel_drew (bel_new w (.cells #[.int .i64 k, .int .u32 g] 34)))
  clear h hr hcl k0 k1 hk hn
  go_enter Try.func41, Try.ntmps41
  go_upto_region 1 with fail
  generalize (w.alloc (.cells #[.int .i64 k, .int .u32 g] 34)) = w4 at *
  obtain ⟨s0, s1, s2, s3⟩ := S0
  go_region_held3 (fun W => W.cell? ⟨b, 0, none⟩ = some (.pointer (some ⟨p, 0, none⟩)) ∧ W.cell? ⟨p, 0, none⟩ = some (.pointer (some ⟨t, 0, none⟩)) ∧ W.cell? ⟨w.heap.size, 0, none⟩ = some (.int .i64 k) ∧ W.cell? ⟨w.heap.size, 1, none⟩ = some (.int .u32 g)) (first | (exact ⟨s0, s1, s2, s3⟩) | (with_reducible exact hz1)) (first
    | (go_at_call 59; refine (htable_yes b p t w4.drew s0 s1).mono ?_; rintro e w5 ⟨rfl, rfl⟩; have hz1 := And.intro s0 (And.intro s1 (And.intro s2 s3)))
    | (go_at_call 68; (with_reducible refine (CK.out _ B0.out).mono ?_); rintro e w5 ⟨rfl, hb5⟩; have HB5 := Lib.hid (bel_drew (bel2 B0.out hb5)); have hz1 := And.intro (cell_stays hb5 s0) (And.intro (cell_stays hb5 s1) (And.intro (cell_stays hb5 s2) (cell_stays hb5 s3))); clear hb5))
  all_goals
    obtain ⟨t0, t1, t2, t3⟩ := hz1
    go_upto_region 4 with fail
    go_region_with (go_at_call 48; refine (CL.out _ HB5.out).mono ?_; rintro e w6 ⟨rfl, HP⟩; have HZ := Lib.hid HP; clear HP)
    all_goals
      go_wp2
      go_ret
      exact ⟨rfl, _, HB5.out, HZ.out⟩
end Go.Proofs.Ytfnhkapbfgofkaa
