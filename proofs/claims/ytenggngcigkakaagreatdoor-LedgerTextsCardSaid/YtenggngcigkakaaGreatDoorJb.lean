/- The document's side: line, Print. -/
import Derived.Test.YtenggngcigkakaaGreatDoorJa
import Derived.Test.YtenggngcigkakaaGreatDoorDr
namespace Go.Proofs.YtenggngcigkakaaGreatDoor
open Go.RowKit Go.ChangeShapes

theorem why_at (j : Nat) (h : j < 3) : (#[.string ⟨#[99, 108, 111, 115, 101]⟩, .string ⟨#[101, 120, 112, 105, 114, 121]⟩, .string ⟨#[99, 111, 108, 108, 101, 99, 116]⟩] : Array Value)[j]? = some (.string (bstr (whyW ((j : Int) + 1)))) := by
  match j, h with
  | 0, _ => rfl
  | 1, _ => rfl
  | 2, _ => rfl
theorem ans_at (j : Nat) (h : j < 3) : (#[.string ⟨#[111, 107]⟩, .string ⟨#[108, 97, 116, 101, 114]⟩, .string ⟨#[102, 97, 105, 108]⟩] : Array Value)[j]? = some (.string (bstr (ansW ((j : Int) + 1)))) := by
  match j, h with
  | 0, _ => rfl
  | 1, _ => rfl
  | 2, _ => rfl
theorem rotextI (a : Att) (h : a.Ok) (w : World) : Calls Tryz.prog 87 #[.agg #[.int .i64 a.k, .int .i64 a.i, .int .u32 a.g]] w fun e w' => e = .returned (.tuple #[.string (bstr (txt 58 a.k.toNat a.i.toNat a.g.toNat)), .int .i64 0]) ∧ Below w.heap.size w w' := by
  have h1 := rotext_ok a.k.toNat a.i.toNat a.g.toNat h.okn w
  rw [show ((a.k.toNat : Nat) : Int) = a.k from Int.toNat_of_nonneg (by have := h.k0; omega), show ((a.i.toNat : Nat) : Int) = a.i from Int.toNat_of_nonneg h.i0, show ((a.g.toNat : Nat) : Int) = a.g from Int.toNat_of_nonneg (by have := h.g0; omega)] at h1
  exact h1
theorem rdigI (t : Int) (h0 : 0 ≤ t) (h1 : t ≤ 1099511627776) (w : World) : Calls Tryz.prog 88 #[.int .i64 t] w fun e w' => e = .returned (.string (bstr (Lib.decDigits t.toNat))) ∧ Below w.heap.size w w' := by
  have h := rdig_any t.toNat (by omega) w
  rw [Int.toNat_of_nonneg h0] at h
  exact h
set_option maxRecDepth 100000 in
set_option maxHeartbeats 4000000 in
theorem rline_ok (a : Att) (h : a.Ok) (w : World) : Calls Tryz.prog 65 #[a.val] w fun e w' => e = .returned (.string (bstr (aText a))) ∧ Below w.heap.size w w' := by
  have hx := aText_size h
  rw [← cat_line]
  have hs1 : (bstr (Lib.decDigits a.t.toNat)).size ≤ 50 := by rw [bstr_size]; unfold aText at hx; simp only [List.length_append] at hx; omega
  have hs2 : (bstr (txt 58 a.k.toNat a.i.toNat a.g.toNat)).size ≤ 50 := by rw [bstr_size]; unfold aText at hx; simp only [List.length_append, List.length_cons] at hx; omega
  have hs3 : (bstr (whyW a.y)).size ≤ 7 := by rw [bstr_size]; exact (whyW_len _).2
  have hs4 : (bstr (ansW a.n)).size ≤ 5 := by rw [bstr_size]; exact (ansW_len _).2
  obtain ⟨yy, hyy⟩ : ∃ y : Nat, a.y = (y : Int) + 1 := ⟨(a.y - 1).toNat, by have := h.y0; omega⟩
  obtain ⟨nn, hnn⟩ : ∃ n : Nat, a.n = (n : Int) + 1 := ⟨(a.n - 1).toNat, by have := h.n0; omega⟩
  have hy1 : yy < 3 := by have := h.y1; omega
  have hn1 : nn < 3 := by have := h.n1; omega
  have HF : Hid (∀ W, Calls Tryz.prog 88 #[.int .i64 a.t] W fun e w' => e = .returned (.string (bstr (Lib.decDigits a.t.toNat))) ∧ Below W.heap.size W w') := fun W => rdigI a.t h.t0 h.t1 W
  have HO : Hid (∀ W, Calls Tryz.prog 87 #[.agg #[.int .i64 a.k, .int .i64 a.i, .int .u32 a.g]] W fun e w' => e = .returned (.tuple #[.string (bstr (txt 58 a.k.toNat a.i.toNat a.g.toNat)), .int .i64 0]) ∧ Below W.heap.size W w') := fun W => rotextI a h W
  have hw1 := why_at yy hy1
  have hw2 := ans_at nn hn1
  rw [← hyy] at hw1
  rw [← hnn] at hw2
  obtain ⟨W3, hW3⟩ : ∃ W3, ((w.alloc (.cells #[.int .i64 a.t, .int .i64 a.k, .int .i64 a.i, .int .u32 a.g, .int .i64 a.y, .int .i64 a.n] 32)).alloc (.cells #[.string ⟨#[99, 108, 111, 115, 101]⟩, .string ⟨#[101, 120, 112, 105, 114, 121]⟩, .string ⟨#[99, 111, 108, 108, 101, 99, 116]⟩] 9)).alloc (.cells #[.string ⟨#[111, 107]⟩, .string ⟨#[108, 97, 116, 101, 114]⟩, .string ⟨#[102, 97, 105, 108]⟩] 9) = W3 := ⟨_, rfl⟩
  have hB3 := bel2 (bel_new w (.cells #[.int .i64 a.t, .int .i64 a.k, .int .i64 a.i, .int .u32 a.g, .int .i64 a.y, .int .i64 a.n] 32)) (bel2 (bel_new _ (.cells #[.string ⟨#[99, 108, 111, 115, 101]⟩, .string ⟨#[101, 120, 112, 105, 114, 121]⟩, .string ⟨#[99, 111, 108, 108, 101, 99, 116]⟩] 9)) (bel_new _ (.cells #[.string ⟨#[111, 107]⟩, .string ⟨#[108, 97, 116, 101, 114]⟩, .string ⟨#[102, 97, 105, 108]⟩] 9)))
  have hbx : Bk (w.alloc (.cells #[.int .i64 a.t, .int .i64 a.k, .int .i64 a.i, .int .u32 a.g, .int .i64 a.y, .int .i64 a.n] 32)) w.heap.size 32 a.cl.toArray := Bk.new w _ _
  have hbx3 := (hbx.up (.cells #[.string ⟨#[99, 108, 111, 115, 101]⟩, .string ⟨#[101, 120, 112, 105, 114, 121]⟩, .string ⟨#[99, 111, 108, 108, 101, 99, 116]⟩] 9)).up (.cells #[.string ⟨#[111, 107]⟩, .string ⟨#[108, 97, 116, 101, 114]⟩, .string ⟨#[102, 97, 105, 108]⟩] 9)
  have hby := Bk.new (w.alloc (.cells #[.int .i64 a.t, .int .i64 a.k, .int .i64 a.i, .int .u32 a.g, .int .i64 a.y, .int .i64 a.n] 32)) 9 #[.string ⟨#[99, 108, 111, 115, 101]⟩, .string ⟨#[101, 120, 112, 105, 114, 121]⟩, .string ⟨#[99, 111, 108, 108, 101, 99, 116]⟩]
  rw [size_up] at hby
  have hby3 := hby.up (.cells #[.string ⟨#[111, 107]⟩, .string ⟨#[108, 97, 116, 101, 114]⟩, .string ⟨#[102, 97, 105, 108]⟩] 9)
  have hbn := Bk.new ((w.alloc (.cells #[.int .i64 a.t, .int .i64 a.k, .int .i64 a.i, .int .u32 a.g, .int .i64 a.y, .int .i64 a.n] 32)).alloc (.cells #[.string ⟨#[99, 108, 111, 115, 101]⟩, .string ⟨#[101, 120, 112, 105, 114, 121]⟩, .string ⟨#[99, 111, 108, 108, 101, 99, 116]⟩] 9)) 9 #[.string ⟨#[111, 107]⟩, .string ⟨#[108, 97, 116, 101, 114]⟩, .string ⟨#[102, 97, 105, 108]⟩]
  rw [size_up, size_up] at hbn
  rw [hW3] at hB3 hbx3 hby3 hbn
  have HB3 := Lib.hid hB3
  have HBX := Lib.hid hbx3
  have HQ : Hid (W3.cell? ⟨w.heap.size + 1, yy, none⟩ = some (.string (bstr (whyW a.y))) ∧ W3.cell? ⟨w.heap.size + 1 + 1, nn, none⟩ = some (.string (bstr (ansW a.n)))) := ⟨(hby3.cell yy).trans hw1, (hbn.cell nn).trans hw2⟩
  have HYY := Lib.hid hyy
  have HNN := Lib.hid hnn
  have HW3 := Lib.hid hW3
  clear h hx hyy hnn hB3 hbx hbx3 hby hby3 hbn hw1 hw2 hW3
  generalize bstr (Lib.decDigits a.t.toNat) = SD at *
  generalize bstr (txt 58 a.k.toNat a.i.toNat a.g.toNat) = SO at *
  generalize bstr (whyW a.y) = SY at *
  generalize bstr (ansW a.n) = SN at *
  unfold Att.val
  go_enter Tryz.func65, Tryz.ntmps65
  go_wp2_with fail
  rw [HW3.out]
  refine (HO.out _).mono ?_
  rintro e w1 ⟨rfl, hb1⟩
  have HB1 := Lib.hid (bel2 HB3.out hb1)
  obtain ⟨d0, d1, d2, d3, d4, d5⟩ := six_new (HBX.out.below hb1)
  simp only [Nat.zero_add] at d0 d1 d2 d3 d4 d5
  have q1 := cell_stays hb1 HQ.out.1
  have q2 := cell_stays hb1 HQ.out.2
  rw [HYY.out] at d4
  rw [HNN.out] at d5
  clear hb1 d1 d2 d3
  go_wp2
  have hz0 := And.intro d0 (And.intro d4 (And.intro d5 (And.intro q1 q2)))
  clear d0 d4 d5 q1 q2
  have f1 : ¬ 9223372036854775807 < SD.size + 1 := by omega
  have f2 : ¬ 9223372036854775807 < SD.size + 1 + SO.size := by omega
  have f3 : ¬ 9223372036854775807 < SD.size + 1 + SO.size + 1 := by omega
  have f4 : ¬ 9223372036854775807 < SD.size + 1 + SO.size + 1 + SY.size := by omega
  have f5 : ¬ 9223372036854775807 < SD.size + 1 + SO.size + 1 + SY.size + 1 := by omega
  have f6 : ¬ 9223372036854775807 < SD.size + 1 + SO.size + 1 + SY.size + 1 + SN.size := by omega
  have u1 : IntKind.i64.wrap ((yy : Int) + 1 - 1) = (yy : Int) := by rw [IntKind.wrap_i64]; omega
  have u2 : IntKind.i64.wrap ((nn : Int) + 1 - 1) = (nn : Int) := by rw [IntKind.wrap_i64]; omega
  have u3 : IntKind.i64.wrap (yy : Int) = (yy : Int) := by rw [IntKind.wrap_i64]; omega
  have u4 : IntKind.i64.wrap (nn : Int) = (nn : Int) := by rw [IntKind.wrap_i64]; omega
  have c1 : (0 : Int) ≤ (yy : Int) := by omega
  have c2 : (yy : Int) < 3 := by omega
  have c3 : (0 : Int) ≤ (nn : Int) := by omega
  have c4 : (nn : Int) < 3 := by omega
  go_region_held3 (fun W => W.cell? ⟨w.heap.size, 0, none⟩ = some (.int .i64 a.t) ∧ W.cell? ⟨w.heap.size, 4, none⟩ = some (.int .i64 ((yy : Int) + 1)) ∧ W.cell? ⟨w.heap.size, 5, none⟩ = some (.int .i64 ((nn : Int) + 1)) ∧ W.cell? ⟨w.heap.size + 1, yy, none⟩ = some (.string SY) ∧ W.cell? ⟨w.heap.size + 1 + 1, nn, none⟩ = some (.string SN)) (first | (with_reducible exact hz1) | exact hz0)
    (first | (go_at_call 88; refine (HF.out _).mono ?_; rintro e w3 ⟨rfl, hb3⟩; have hz1 := And.intro (cell_stays hb3 hz0.1) (And.intro (cell_stays hb3 hz0.2.1) (And.intro (cell_stays hb3 hz0.2.2.1) (And.intro (cell_stays hb3 hz0.2.2.2.1) (cell_stays hb3 hz0.2.2.2.2))))))
  all_goals
    clear hz0 hz1
    go_wp2
    go_ret
    exact ⟨rfl, bel2 HB1.out (bel2 (bel_drew (Below.refl _ _)) hb3)⟩
end Go.Proofs.YtenggngcigkakaaGreatDoor
