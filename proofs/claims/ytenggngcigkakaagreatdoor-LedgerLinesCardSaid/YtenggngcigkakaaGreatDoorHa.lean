/- What the listed variables hold; the contracts of the program's New, has, Check, Len, put and Add. -/
import Derived.Test.YtenggngcigkakaaGreatDoorHk
import Derived.Test.YtenggngcigkakaaGreatDoorDe
import Derived.OwnWalk
import Derived.IntWalk
import Derived.Deep.RegionWith
import Derived.Deep.RegionHeld3
import Derived.Deep.RegionHeldLaw
import Derived.Lib.AppendZeros
namespace Go.Proofs.YtenggngcigkakaaGreatDoor
open Go.RowKit Go.ChangeShapes

/-- The table of words holds these. -/
structure Words (w : World) (g : Nat) (a b c : List UInt8) : Prop where
  c0 : w.cell? ⟨g, 0, none⟩ = some (.string ⟨#[]⟩)
  c1 : w.cell? ⟨g, 1, none⟩ = some (.string ⟨a.toArray⟩)
  c2 : w.cell? ⟨g, 2, none⟩ = some (.string ⟨b.toArray⟩)
  c3 : w.cell? ⟨g, 3, none⟩ = some (.string ⟨c.toArray⟩)
theorem Words.below {w w' : World} {g : Nat} {a b c : List UInt8} (h : Words w g a b c) (hb : Below w.heap.size w w') : Words w' g a b c :=
  ⟨cell_stays hb h.c0, cell_stays hb h.c1, cell_stays hb h.c2, cell_stays hb h.c3⟩
/-- What the variables that the program reads hold. -/
structure EnvL (w : World) : Prop where
  env : Env w
  whys : Words w 0 [99, 108, 111, 115, 101] [101, 120, 112, 105, 114, 121] [99, 111, 108, 108, 101, 99, 116]
  answers : Words w 1 [111, 107] [108, 97, 116, 101, 114] [102, 97, 105, 108]
theorem EnvL.below {w w' : World} (h : EnvL w) (hb : Below w.heap.size w w') : EnvL w' := ⟨h.env.below hb, h.whys.below hb, h.answers.below hb⟩

/-! ### New -/
theorem bel_new (w : World) (o : Obj) : Below w.heap.size w (w.alloc o) := (Below.refl _ _).alloc (Nat.le_refl _) _
theorem Bk.up {w : World} {g : Nat} {t : TypeId} {cs : Array Value} (h : Bk w g t cs) (o : Obj) : Bk (w.alloc o) g t cs := h.below (bel_new w o)
theorem size_up (w : World) (o : Obj) : (w.alloc o).heap.size = w.heap.size + 1 := by simp
theorem book_new (w : World) : BookW ((w.alloc (.map #[] 0)).alloc (.cells #[.slice none 0 0, .map (some w.heap.size)] 79)) (w.heap.size + 1) w.heap.size (.slice none 0 0) w.heap.size [] := by
  have hb := Bk.new (w.alloc (.map #[] 0)) 79 #[.slice none 0 0, .map (some w.heap.size)]
  rw [size_up] at hb
  have hB := bel_new (w.alloc (.map #[] 0)) (.cells #[.slice none 0 0, .map (some w.heap.size)] 79)
  have hg := World.ownsGroups_made (H := Unit) w Tryz.prog 25 3 .i64
  have hg2 := groups_same hg (hB.block _ (by simp)) (fun g h => hB.block g (gfoot_lt hg h).2)
  exact ⟨allOk_nil, Nat.zero_le _, hb, World.ownsRow_nil _ _ _ _, ⟨_, hg2.1, mapOf_nil⟩, by omega, Nat.le_refl _⟩
theorem led_new (w : World) : LedW (((w.alloc (.map #[] 0)).alloc (.cells #[.slice none 0 0, .map (some w.heap.size)] 79)).alloc (.cells #[.pointer (some ⟨w.heap.size + 1, 0, none⟩)] 56)) (w.heap.size + 2) (w.heap.size + 1) w.heap.size [] := by
  have hb := Bk.new ((w.alloc (.map #[] 0)).alloc (.cells #[.slice none 0 0, .map (some w.heap.size)] 79)) 56 #[.pointer (some ⟨w.heap.size + 1, 0, none⟩)]
  rw [size_up, size_up] at hb
  exact ⟨hb, _, _, ((book_new w).below (bel_new _ _)).1⟩
def NewL (w : World) (e : Ending) (w' : World) : Prop := e = .returned (.pointer (some ⟨w.heap.size + 2, 0, none⟩)) ∧ LedW w' (w.heap.size + 2) (w.heap.size + 1) w.heap.size [] ∧ Below w.heap.size w w'
set_option maxRecDepth 100000 in
theorem new_ok (w : World) : Calls Tryz.prog 14 #[] w (NewL w) := by
  have hmm := @run_makeMap Tryz.prog
  go_enter Tryz.func14, Tryz.ntmps14
  go_wp2
  go_ret
  exact ⟨rfl, led_new w, ((bel_new w _).alloc (by simp) _).alloc (by simp; omega) _⟩

/-! ### has, Check -/
theorem has_yes (ws : Value) (n : Int) (w : World) (h : 1 ≤ n ∧ n ≤ 3) (hw : ∃ a b c d, ws = .agg #[a, b, c, d]) : Calls Tryz.prog 52 #[ws, .int .i64 n] w fun e w' => e = .returned (.bool true) ∧ Below w.heap.size w w' := by
  have h1 : 0 < n := by omega
  have h2 : n < 4 := by omega
  obtain ⟨a, b, c, d, rfl⟩ := hw
  go_enter Tryz.func52, Tryz.ntmps52
  go_wp2
  go_ret
  exact ⟨rfl, bel_new _ _⟩
theorem has_no (ws : Value) (n : Int) (w : World) (h : ¬ (1 ≤ n ∧ n ≤ 3)) (hw : ∃ a b c d, ws = .agg #[a, b, c, d]) : Calls Tryz.prog 52 #[ws, .int .i64 n] w fun e w' => e = .returned (.bool false) ∧ Below w.heap.size w w' := by
  obtain ⟨a, b, c, d, rfl⟩ := hw
  by_cases h1 : 0 < n
  · have h2 : ¬ n < 4 := by omega
    go_enter Tryz.func52, Tryz.ntmps52
    go_wp2
    go_ret
    exact ⟨rfl, bel_new _ _⟩
  · go_enter Tryz.func52, Tryz.ntmps52
    go_wp2
    go_ret
    exact ⟨rfl, bel_new _ _⟩
theorem outI_ok (k i g : Int) (h : 1 ≤ k ∧ k ≤ 3 ∧ 0 ≤ i ∧ i < 64 ∧ 1 ≤ g ∧ g ≤ 4294967295) (w : World) :
    Calls Tryz.prog 53 #[.agg #[.int .i64 k, .int .i64 i, .int .u32 g]] w fun e w' => e = .returned (.int .i64 0) ∧ Below w.heap.size w w' := by
  obtain ⟨a, rfl⟩ : ∃ a : Nat, k = a := ⟨k.toNat, by omega⟩
  obtain ⟨b, rfl⟩ : ∃ a : Nat, i = a := ⟨i.toNat, by omega⟩
  obtain ⟨c, rfl⟩ : ∃ a : Nat, g = a := ⟨g.toNat, by omega⟩
  exact ochk_ok a b c ⟨by omega, by omega, by omega, by omega, by omega⟩ w
theorem outI_bad (k i g : Int) (hr : RgO k i g) (h : ¬ (1 ≤ k ∧ k ≤ 3 ∧ 0 ≤ i ∧ i < 64 ∧ 1 ≤ g ∧ g ≤ 4294967295)) (w : World) :
    Calls Tryz.prog 53 #[.agg #[.int .i64 k, .int .i64 i, .int .u32 g]] w fun e w' => e = .returned (.int .i64 2) ∧ Below w.heap.size w w' := by
  obtain ⟨h1, h2, h3, h4, h5, h6⟩ := hr
  exact ochk_bad k i g ⟨h1, h2, h3, h4, h5, h6⟩ (by unfold Bad; omega) w
open Classical in
/-- The error of Check. -/
noncomputable def chkE (a : Att) : Int := if a.Ok then 0 else 2
theorem chkE_ok {a : Att} (h : a.Ok) : chkE a = 0 := if_pos h
theorem chkE_bad {a : Att} (h : ¬ a.Ok) : chkE a = 2 := if_neg h
def ChkV (a : Att) (w : World) (e : Ending) (w' : World) : Prop := e = .returned (.int .i64 (chkE a)) ∧ Below w.heap.size w w'
set_option maxRecDepth 100000 in
set_option maxHeartbeats 1000000 in
theorem chk_time (a : Att) (h : a.t < 0 ∨ 1099511627776 < a.t) (w : World) (he : EnvL w) : Calls Tryz.prog 19 #[a.val] w (ChkV a w) := by
  have hE : Hid (chkE a = 2) := chkE_bad fun hk => by have := hk.t0; have := hk.t1; omega
  obtain ⟨y0, y1, y2, y3⟩ := he.whys
  obtain ⟨z0, z1, z2, z3⟩ := he.answers
  unfold ChkV Att.val
  generalize chkE a = E at *
  obtain ⟨t, k, i, g, y, n⟩ := a
  by_cases h1 : t < 0
  · go_enter Tryz.func19, Tryz.ntmps19
    go_wp2
    go_ret
    exact ⟨by rw [hE.out]; rfl, bel_new _ _⟩
  · have h2 : 1099511627776 < t := by simp only at h; omega
    go_enter Tryz.func19, Tryz.ntmps19
    go_wp2
    go_ret
    exact ⟨by rw [hE.out]; rfl, bel_new _ _⟩
set_option maxRecDepth 100000 in
set_option maxHeartbeats 1000000 in
theorem chk_in (a : Att) (hr : a.Rg) (ht : 0 ≤ a.t ∧ a.t ≤ 1099511627776) (w : World) (he : EnvL w) : Calls Tryz.prog 19 #[a.val] w (ChkV a w) := by
  obtain ⟨E, hE⟩ : ∃ E, chkE a = E := ⟨_, rfl⟩
  have HB0 := Lib.hid (bel_new w (.cells #[.int .i64 a.t, .int .i64 a.k, .int .i64 a.i, .int .u32 a.g, .int .i64 a.y, .int .i64 a.n] 32))
  have HW := Lib.hid he.whys
  have HA := Lib.hid (he.answers.below HB0.out)
  obtain ⟨y0, y1, y2, y3⟩ := he.whys.below HB0.out
  obtain ⟨z0, z1, z2, z3⟩ := he.answers.below HB0.out
  have HO := Lib.hid hr.o
  obtain ⟨t0, t1⟩ := ht
  unfold ChkV
  rw [hE]
  have HE : Hid (¬ (1 ≤ a.y ∧ a.y ≤ 3) → E = 2) := fun h => by rw [← hE]; exact chkE_bad fun hk => h ⟨hk.y0, hk.y1⟩
  have HE2 : Hid (¬ (1 ≤ a.n ∧ a.n ≤ 3) → E = 2) := fun h => by rw [← hE]; exact chkE_bad fun hk => h ⟨hk.n0, hk.n1⟩
  have HE3 : Hid (¬ (1 ≤ a.k ∧ a.k ≤ 3 ∧ 0 ≤ a.i ∧ a.i < 64 ∧ 1 ≤ a.g ∧ a.g ≤ 4294967295) → E = 2) := fun h => by rw [← hE]; exact chkE_bad fun hk => h ⟨hk.k0, hk.k1, hk.i0, hk.i1, hk.g0, hk.g1⟩
  have HE4 : Hid (1 ≤ a.y ∧ a.y ≤ 3 → 1 ≤ a.n ∧ a.n ≤ 3 → 1 ≤ a.k ∧ a.k ≤ 3 ∧ 0 ≤ a.i ∧ a.i < 64 ∧ 1 ≤ a.g ∧ a.g ≤ 4294967295 → E = 0) := fun ⟨h1, h2⟩ ⟨h3, h4⟩ ⟨h5, h6, h7, h8, h9, h10⟩ => by
    rw [← hE]; exact chkE_ok ⟨by simpa using t0, by simpa using t1, h5, h6, h7, h8, h9, h10, h1, h2, h3, h4⟩
  clear he hr hE
  obtain ⟨t, k, i, g, y, n⟩ := a
  simp only [Att.val] at *
  go_enter Tryz.func19, Tryz.ntmps19
  by_cases cy : 1 ≤ y ∧ y ≤ 3
  · have CY := Lib.hid cy
    clear cy
    go_wp2_with fail
    refine (has_yes _ _ _ CY.out ⟨_, _, _, _, rfl⟩).mono ?_
    rintro e w1 ⟨rfl, hb1⟩
    obtain ⟨z0, z1, z2, z3⟩ := HA.out.below hb1
    obtain ⟨c0, c1, c2, c3, c4, c5⟩ : w1.cell? ⟨w.heap.size, 0, none⟩ = some (.int .i64 t) ∧ w1.cell? ⟨w.heap.size, 1, none⟩ = some (.int .i64 k) ∧ w1.cell? ⟨w.heap.size, 2, none⟩ = some (.int .i64 i) ∧ w1.cell? ⟨w.heap.size, 3, none⟩ = some (.int .u32 g) ∧ w1.cell? ⟨w.heap.size, 4, none⟩ = some (.int .i64 y) ∧ w1.cell? ⟨w.heap.size, 5, none⟩ = some (.int .i64 n) := by
      refine ⟨?_, ?_, ?_, ?_, ?_, ?_⟩ <;> (refine cell_stays hb1 ?_; go_simp)
    have HB1 := Lib.hid (bel2 HB0.out hb1)
    by_cases cn : 1 ≤ n ∧ n ≤ 3
    · have CN := Lib.hid cn
      clear cn
      go_wp2_with fail
      refine (has_yes _ _ _ CN.out ⟨_, _, _, _, rfl⟩).mono ?_
      rintro e w2 ⟨rfl, hb2⟩
      have d1 := cell_stays hb2 c1
      have d2 := cell_stays hb2 c2
      have d3 := cell_stays hb2 c3
      have HB2 := Lib.hid (bel2 HB1.out hb2)
      clear c0 c1 c2 c3 c4 c5 hb1 hb2 y0 y1 y2 y3 z0 z1 z2 z3
      by_cases co : 1 ≤ k ∧ k ≤ 3 ∧ 0 ≤ i ∧ i < 64 ∧ 1 ≤ g ∧ g ≤ 4294967295
      · have CO := Lib.hid co
        clear co
        go_wp2_with fail
        refine (outI_ok _ _ _ CO.out _).mono ?_
        rintro e w3 ⟨rfl, hb3⟩
        go_wp2
        go_ret
        exact ⟨by rw [HE4.out CY.out CN.out CO.out]; rfl, bel2 HB2.out hb3⟩
      · have CO := Lib.hid co
        clear co
        go_wp2_with fail
        refine (outI_bad _ _ _ HO.out CO.out _).mono ?_
        rintro e w3 ⟨rfl, hb3⟩
        go_wp2
        go_ret
        exact ⟨by rw [HE3.out CO.out]; rfl, bel2 HB2.out hb3⟩
    · have CN := Lib.hid cn
      clear cn
      go_wp2_with fail
      refine (has_no _ _ _ CN.out ⟨_, _, _, _, rfl⟩).mono ?_
      rintro e w2 ⟨rfl, hb2⟩
      go_wp2
      go_ret
      exact ⟨by rw [HE2.out CN.out]; rfl, bel2 HB1.out hb2⟩
  · have CY := Lib.hid cy
    clear cy
    go_wp2_with fail
    refine (has_no _ _ _ CY.out ⟨_, _, _, _, rfl⟩).mono ?_
    rintro e w1 ⟨rfl, hb1⟩
    obtain ⟨z0, z1, z2, z3⟩ := HA.out.below hb1
    go_wp2
    go_ret
    exact ⟨by rw [HE.out CY.out]; rfl, bel2 HB0.out hb1⟩
theorem chk_att (a : Att) (hr : a.Rg) (w : World) (he : EnvL w) : Calls Tryz.prog 19 #[a.val] w (ChkV a w) := by
  by_cases h : 0 ≤ a.t ∧ a.t ≤ 1099511627776
  · exact chk_in a hr h w he
  · exact chk_time a (by omega) w he
end Go.Proofs.YtenggngcigkakaaGreatDoor
