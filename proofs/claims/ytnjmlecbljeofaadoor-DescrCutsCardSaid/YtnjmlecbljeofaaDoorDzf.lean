/- The examples that each law ends with. -/
import Derived.Test.YtnjmlecbljeofaaDoorDze
import Derived.Test.YtnjmlecbljeofaaDoorDzc
import Derived.Test.YtnjmlecbljeofaaDoorDw
namespace Go.Proofs.YtnjmlecbljeofaaDoor
open Go.RowKit

theorem dig1 (u : Nat) (h : u < 10) : Lib.decDigits u = [UInt8.ofNat (48 + u)] := Lib.decDigits_one h
theorem txt1 (m : UInt8) (k p g : Nat) (hp : p < 10) (hg : g < 10) : txt m k p g = [letter k, UInt8.ofNat (48 + p), m, UInt8.ofNat (48 + g)] := by
  unfold txt
  rw [dig1 p hp, dig1 g hg]
  rfl
theorem ex_l29 : txt 46 3 2 9 = [108, 50, 46, 57] := txt1 46 3 2 9 (by decide) (by decide)
theorem ex_f37 : txt 46 1 3 7 = [102, 51, 46, 55] := txt1 46 1 3 7 (by decide) (by decide)
theorem ex_f37o : txt 58 1 3 7 = [102, 51, 58, 55] := txt1 58 1 3 7 (by decide) (by decide)
theorem ex_f037 : NoName 46 256 [102, 48, 51, 46, 55] := by
  intro k p g hO e
  have e' : (102 : UInt8) :: ([48, 51] ++ 46 :: [55]) = txt 46 k p g := e
  obtain ⟨_, e2, _⟩ := txt_parts (m := 46) (.inl rfl) (by decide) e'
  have h : numOf [48, 51] = p := by rw [e2, numOf_digits]
  have h3 : numOf [48, 51] = 3 := by decide
  rw [h3] at h
  subst h
  rw [dig1 3 (by decide)] at e2
  exact absurd e2 (by decide)
theorem ex_f64 : NoName 58 64 [102, 54, 52, 58, 49] := by
  intro k p g hO e
  have e' : (102 : UInt8) :: ([54, 52] ++ 58 :: [49]) = txt 58 k p g := e
  obtain ⟨_, e2, _⟩ := txt_parts (m := 58) (.inr rfl) (by decide) e'
  have h : numOf [54, 52] = p := by rw [e2, numOf_digits]
  have h3 : numOf [54, 52] = 64 := by decide
  have := hO.p1
  omega

/-- The three cells of a descriptor or a resource. -/
structure D3 (w : World) (b : Nat) (k p g : Int) : Prop where
  c0 : w.cell? ⟨b, 0, none⟩ = some (.int .i64 k)
  c1 : w.cell? ⟨b, 1, none⟩ = some (.int .i64 p)
  c2 : w.cell? ⟨b, 2, none⟩ = some (.int .u32 g)
theorem D3.lt {w : World} {b : Nat} {k p g : Int} (h : D3 w b k p g) : b < w.heap.size := World.block_lt_of_cell? _ _ h.c0
theorem D3.below {w w' : World} {b : Nat} {k p g : Int} (h : D3 w b k p g) (hb : Below w.heap.size w w') : D3 w' b k p g := ⟨cell_keeps hb h.c0, cell_keeps hb h.c1, cell_keeps hb h.c2⟩
theorem D3.new (w : World) (k p g : Int) (T : TypeId) : D3 (w.alloc (.cells #[.int .i64 k, .int .i64 p, .int .u32 g] T)) w.heap.size k p g := by constructor <;> go_simp
theorem bup (w : World) (o : Obj) : Below w.heap.size w (w.alloc o) := (Below.refl _ _).alloc (Nat.le_refl _) _

theorem ex_pack (w : World) : Calls Tryd.prog 13 #[.agg #[.int .i64 1, .int .i64 3, .int .u32 7]] w fun e w' => e = .returned (.tuple #[.int .u64 1112396529671, .int .i64 0]) ∧ Below w.heap.size w w' :=
  pack_ok 1 3 7 ⟨by decide, by decide, by decide, by decide, by decide⟩ w
theorem ex_unpack (w : World) : Calls Tryd.prog 15 #[.int .u64 1112396529671] w fun e w' => e = .returned (.tuple #[.agg #[.int .i64 1, .int .i64 3, .int .u32 7], .int .i64 0]) ∧ Below w.heap.size w w' :=
  unpack_ok 1112396529671 1 3 7 ⟨by decide, by decide, by decide, by decide, by decide⟩ (by decide) (by decide) (by decide) (by decide) (by decide) w
theorem ex_unpack0 (w : World) : Calls Tryd.prog 15 #[.int .u64 1112396529664] w fun e w' => e = .returned (.tuple #[.agg #[.int .i64 0, .int .i64 0, .int .u32 0], .int .i64 2]) ∧ Below w.heap.size w w' :=
  unpack_bad 1112396529664 (by decide) (by decide) (.inr (.inr (by decide))) w
theorem ex_text (w : World) (he : Env w) : Calls Tryd.prog 20 #[.agg #[.int .i64 3, .int .i64 2, .int .u32 9]] w fun e w' => e = .returned (.tuple #[.string ⟨#[108, 50, 46, 57]⟩, .int .i64 0]) ∧ Below w.heap.size w w' := by
  have h := dtext_ok 3 2 9 ⟨by decide, by decide, by decide, by decide, by decide⟩ w he
  rw [ex_l29] at h
  exact h
theorem ex_parse (w : World) (he : Env w) : Calls Tryd.prog 22 #[.string ⟨#[102, 51, 46, 55]⟩] w fun e w' => e = .returned (.tuple #[.agg #[.int .i64 1, .int .i64 3, .int .u32 7], .int .i64 0]) ∧ Below w.heap.size w w' := by
  have h := dparse_yes 1 3 7 ⟨by decide, by decide, by decide, by decide, by decide⟩ w he
  rw [ex_f37] at h
  exact h
theorem ex_parse0 (w : World) (he : Env w) : Calls Tryd.prog 22 #[.string ⟨#[102, 48, 51, 46, 55]⟩] w fun e w' => e = .returned (.tuple #[.agg #[.int .i64 0, .int .i64 0, .int .u32 0], .int .i64 9]) ∧ Below w.heap.size w w' :=
  dparse_no ⟨#[102, 48, 51, 46, 55]⟩ (by decide) ex_f037 w he
theorem ex_otext (w : World) (he : Env w) : Calls Tryd.prog 24 #[.agg #[.int .i64 1, .int .i64 3, .int .u32 7]] w fun e w' => e = .returned (.tuple #[.string ⟨#[102, 51, 58, 55]⟩, .int .i64 0]) ∧ Below w.heap.size w w' := by
  have h := otext_ok 1 3 7 ⟨by decide, by decide, by decide, by decide, by decide⟩ w he
  rw [ex_f37o] at h
  exact h
theorem ex_oparse0 (w : World) (he : Env w) : Calls Tryd.prog 26 #[.string ⟨#[102, 54, 52, 58, 49]⟩] w fun e w' => e = .returned (.tuple #[.agg #[.int .i64 0, .int .i64 0, .int .u32 0], .int .i64 9]) ∧ Below w.heap.size w w' :=
  oparse_no ⟨#[102, 54, 52, 58, 49]⟩ (by decide) ex_f64 w he
theorem ex_order (w : World) : Calls Tryd.prog 30 #[.agg #[.int .i64 2, .int .i64 0, .int .u32 1], .agg #[.int .i64 1, .int .i64 3, .int .u32 7]] w fun e w' => e = .returned (.int .i64 1) ∧ Below w.heap.size w w' :=
  order_ok 2 0 1 1 3 7 ⟨by decide, by decide, by decide, by decide, by decide, by decide⟩ ⟨by decide, by decide, by decide, by decide, by decide, by decide⟩ w

set_option maxHeartbeats 1000000 in
set_option maxRecDepth 100000 in
theorem works_ok (w : World) (he : Env w) :
    Calls Tryd.prog 19 #[] w fun e w' => e = .returned (.bool true) ∧ Below w.heap.size w w' := by
  have HE := Lib.hid he
  clear he
  go_enter Tryd.func19, Tryd.ntmps19
  go_wp2_with fail
  refine (ex_pack _).mono ?_
  rintro e w1 ⟨rfl, hb1⟩
  have HD1 := Lib.hid ((D3.new w 1 3 7 24).below hb1)
  have HB1 := Lib.hid (bel2 (bup w _) hb1)
  clear hb1
  go_wp2_with fail
  refine (ex_unpack _).mono ?_
  rintro e w2 ⟨rfl, hb2⟩
  have HB2 := Lib.hid hb2
  clear hb2
  go_wp2_with fail
  refine (ex_unpack0 _).mono ?_
  rintro e w3 ⟨rfl, hb3⟩
  have HX3 := Lib.hid ((D3.new w2 1 3 7 24).below hb3)
  have HB3 := Lib.hid (bel2 HB2.out (bel2 (bup w2 _) hb3))
  clear hb3
  go_wp2_with fail
  refine (ex_text _ ((((HE.out.below HB1.out).below HB3.out)).below (bup w3 _))).mono ?_
  rintro e w4 ⟨rfl, hb4⟩
  have HB4 := Lib.hid (bel2 (bup w3 _) hb4)
  have HE4 := Lib.hid (((HE.out.below HB1.out).below HB3.out).below HB4.out)
  clear hb4
  go_wp2_with fail
  refine (ex_parse _ HE4.out).mono ?_
  rintro e w5 ⟨rfl, hb5⟩
  have HB5 := Lib.hid hb5
  clear hb5
  go_wp2_with fail
  refine (ex_parse0 _ ((HE4.out.below HB5.out).below (bup w5 _))).mono ?_
  rintro e w6 ⟨rfl, hb6⟩
  have HY6 := Lib.hid ((D3.new w5 1 3 7 24).below hb6)
  have HB6 := Lib.hid (bel2 (bup w5 _) hb6)
  have HE6 := Lib.hid ((HE4.out.below HB5.out).below HB6.out)
  clear hb6
  go_wp2_with fail
  refine (ex_otext _ (HE6.out.below (bup w6 _))).mono ?_
  rintro e w7 ⟨rfl, hb7⟩
  have HB7 := Lib.hid (bel2 (bup w6 _) hb7)
  have HE7 := Lib.hid (HE6.out.below HB7.out)
  clear hb7
  go_wp2_with fail
  refine (ex_oparse0 _ HE7.out).mono ?_
  rintro e w8 ⟨rfl, hb8⟩
  have HB8 := Lib.hid (bel2 hb8 (bup w8 (.cells #[.int .i64 0, .int .i64 0, .int .u32 0] 39)))
  clear hb8
  obtain ⟨d0, d1, d2⟩ := (((((HD1.out.below HB3.out).below HB4.out).below HB5.out).below HB6.out).below HB7.out).below HB8.out
  obtain ⟨x0, x1, x2⟩ := ((((HX3.out.below HB4.out).below HB5.out).below HB6.out).below HB7.out).below HB8.out
  obtain ⟨y0, y1, y2⟩ := (HY6.out.below HB7.out).below HB8.out
  have HBT := Lib.hid (bel2 (bel2 (bel2 (bel2 (bel2 (bel2 HB1.out HB3.out) HB4.out) HB5.out) HB6.out) HB7.out) HB8.out)
  go_wp2_with fail
  refine (ex_order _).mono ?_
  rintro e w9 ⟨rfl, hb9⟩
  have HB9 := Lib.hid (bel2 HBT.out hb9)
  clear hb9 d0 d1 d2 x0 x1 x2 y0 y1 y2
  go_wp2
  go_ret
  exact ⟨rfl, HB9.out⟩
end Go.Proofs.YtnjmlecbljeofaaDoor
