/- The document's side: digits, Check, line, Print. The document's side: line, Print. The document's side: Print. -/
import Derived.Test.YtenggngcigkakaaGreatDoorIi
import Derived.Test.YtenggngcigkakaaGreatDoorDr
namespace Go.Proofs.YtenggngcigkakaaGreatDoor
open Go.RowKit Go.ChangeShapes

/-! ### digits -/
set_option maxHeartbeats 400000 in
theorem rdig_one (u : Nat) (hu : u < 10) (w : World) :
    Calls Tryz.prog 88 #[.int .i64 u] w fun e w' => e = .returned (.string (bstr (Lib.decDigits u))) ∧ Below w.heap.size w w' := by
  unfold bstr
  rw [Lib.decDigits_one hu]
  have e8 : ((UInt8.ofNat (48 + u)).toNat : Int) = 48 + (u : Int) := by have := toNat_digit u hu; omega
  generalize UInt8.ofNat (48 + u) = b at e8 ⊢
  have hcv := fun (W : World) (p : Nat) (hW : W.cell? ⟨p, 0, none⟩ = some (.int .u8 b.toNat)) => conv_one 95 W p b Tryz.underlying95 hW
  rw [e8] at hcv
  clear e8
  go_enter Tryz.func88, Tryz.ntmps88
  go_wp2
  go_ret
  exact ⟨rfl, (Below.refl _ _).alloc (Nat.le_refl _) _⟩
open Go.Lib in
theorem dig_len13 (u : Nat) (h : u ≤ 1099511627776) : (Lib.decDigits u).length ≤ 13 := by
  have h1 := decDigits_length u
  have h5 : nDigits u ≤ 13 := by
    refine nDigits_le 12 _ ?_
    have h3 : (10 : Nat) ^ (12 + 1) = 10000000000000 := by decide
    omega
  omega
set_option maxHeartbeats 1000000 in
theorem rdig_more (u : Nat) (hu : ¬ u < 10) (hu' : u ≤ 1099511627776) (w : World)
    (ih : ∀ W : World, Calls Tryz.prog 88 #[.int .i64 ((u : Int) / 10)] W fun e w' => e = .returned (.string ⟨(Lib.decDigits (u / 10)).toArray⟩) ∧ Below W.heap.size W w') :
    Calls Tryz.prog 88 #[.int .i64 u] w fun e w' => e = .returned (.string ⟨(Lib.decDigits u).toArray⟩) ∧ Below w.heap.size w w' := by
  have hd : Lib.decDigits u = Lib.decDigits (u / 10) ++ [UInt8.ofNat (48 + u % 10)] := by rw [Lib.decDigits, dif_neg hu]
  rw [hd, ← bytes_append]
  have e8 : ((UInt8.ofNat (48 + u % 10)).toNat : Int) = 48 + (u : Int) % 10 := by have := toNat_digit (u % 10) (by omega); omega
  generalize UInt8.ofNat (48 + u % 10) = b at e8 ⊢
  have hl : (Lib.decDigits (u / 10)).length ≤ 13 := dig_len13 _ (by omega)
  generalize Lib.decDigits (u / 10) = l at ih hl ⊢
  have hcv := fun (W : World) (p : Nat) (hW : W.cell? ⟨p, 0, none⟩ = some (.int .u8 b.toNat)) => conv_one 95 W p b Tryz.underlying95 hW
  rw [e8] at hcv
  have HI := Lib.hid ih
  clear ih e8 hd
  have q1 : IntKind.i64.wrap ((u : Int) / 10) = (u : Int) / 10 := by rw [IntKind.wrap_i64]; omega
  have q2 : (u : Int).tmod 10 = (u : Int) % 10 := IntWalk.rem_in _ _ (by omega)
  have q3 : IntKind.i64.wrap (48 + (u : Int) % 10) = 48 + (u : Int) % 10 := by rw [IntKind.wrap_i64]; omega
  have q4 : IntKind.u8.wrap (48 + (u : Int) % 10) = 48 + (u : Int) % 10 := IntWalk.u8_in _ (by omega)
  go_enter Tryz.func88, Tryz.ntmps88
  go_wp2
  go_region_with (go_at_call 88; refine (HI.out _).mono ?_; rintro e w1 ⟨rfl, hb1⟩; obtain ⟨hcc, hff⟩ := bcell hb1; clear hff)
  all_goals
    clear q1 q2 q3 q4 hcc hcv
    go_wp2
    go_ret
    first
      | exact ⟨rfl, bel_a hb1 _⟩
      | exact ⟨rfl, bel_b hb1⟩
theorem rdig_any (u : Nat) : ∀ (_ : u ≤ 1099511627776) (w : World),
    Calls Tryz.prog 88 #[.int .i64 u] w fun e w' => e = .returned (.string (bstr (Lib.decDigits u))) ∧ Below w.heap.size w w' := by
  induction u using Nat.strongRecOn with
  | _ u ih =>
    intro hu w
    by_cases h : u < 10
    · exact rdig_one u h w
    · refine rdig_more u h hu w fun W => ?_
      have := ih (u / 10) (by omega) (by omega) W
      rwa [show (((u / 10 : Nat) : Int)) = (u : Int) / 10 by omega] at this

/-! ### Check -/
theorem routI_ok (k i g : Int) (h : 1 ≤ k ∧ k ≤ 3 ∧ 0 ≤ i ∧ i < 64 ∧ 1 ≤ g ∧ g ≤ 4294967295) (w : World) :
    Calls Tryz.prog 54 #[.agg #[.int .i64 k, .int .i64 i, .int .u32 g]] w fun e w' => e = .returned (.int .i64 0) ∧ Below w.heap.size w w' := by
  obtain ⟨a, rfl⟩ : ∃ a : Nat, k = a := ⟨k.toNat, by omega⟩
  obtain ⟨b, rfl⟩ : ∃ a : Nat, i = a := ⟨i.toNat, by omega⟩
  obtain ⟨c, rfl⟩ : ∃ a : Nat, g = a := ⟨g.toNat, by omega⟩
  exact rochk_ok a b c ⟨by omega, by omega, by omega, by omega, by omega⟩ w
theorem routI_bad (k i g : Int) (hr : RgO k i g) (h : ¬ (1 ≤ k ∧ k ≤ 3 ∧ 0 ≤ i ∧ i < 64 ∧ 1 ≤ g ∧ g ≤ 4294967295)) (w : World) :
    Calls Tryz.prog 54 #[.agg #[.int .i64 k, .int .i64 i, .int .u32 g]] w fun e w' => e = .returned (.int .i64 2) ∧ Below w.heap.size w w' := by
  obtain ⟨h1, h2, h3, h4, h5, h6⟩ := hr
  exact rochk_bad k i g ⟨h1, h2, h3, h4, h5, h6⟩ (by unfold Bad; omega) w
set_option maxRecDepth 100000 in
set_option maxHeartbeats 2000000 in
theorem rchk_att (a : Att) (hr : a.Rg) (w : World) : Calls Tryz.prog 20 #[a.val] w (ChkV a w) := by
  obtain ⟨E, hE⟩ : ∃ E, chkE a = E := ⟨_, rfl⟩
  unfold ChkV
  rw [hE]
  have HO := Lib.hid hr.o
  have HY : Hid (¬ a.Ok → E = 2) := fun h => by rw [← hE]; exact chkE_bad h
  have HZ : Hid (a.Ok → E = 0) := fun h => by rw [← hE]; exact chkE_ok h
  have HB0 := Lib.hid (bel_new w (.cells #[.int .i64 a.t, .int .i64 a.k, .int .i64 a.i, .int .u32 a.g, .int .i64 a.y, .int .i64 a.n] 32))
  have hbox : Bk (w.alloc (.cells #[.int .i64 a.t, .int .i64 a.k, .int .i64 a.i, .int .u32 a.g, .int .i64 a.y, .int .i64 a.n] 32)) w.heap.size 32 a.cl.toArray := Bk.new w _ _
  have HBX := Lib.hid hbox
  clear hr hE hbox
  by_cases h0 : a.t < 0
  · have H := HY.out fun h => absurd h.t0 (by omega)
    clear HY HZ
    obtain ⟨t, k, i, g, y, n⟩ := a
    simp only [Att.val] at *
    go_enter Tryz.func20, Tryz.ntmps20
    go_wp2
    go_ret
    exact ⟨(by first | rfl | (rw [H]; rfl)), HB0.out⟩
  by_cases h1 : 1099511627776 < a.t
  · have H := HY.out fun h => absurd h.t1 (by omega)
    clear HY HZ
    obtain ⟨t, k, i, g, y, n⟩ := a
    simp only [Att.val] at *
    go_enter Tryz.func20, Tryz.ntmps20
    go_wp2
    go_ret
    exact ⟨(by first | rfl | (rw [H]; rfl)), HB0.out⟩
  by_cases h2 : 1 ≤ a.k ∧ a.k ≤ 3 ∧ 0 ≤ a.i ∧ a.i < 64 ∧ 1 ≤ a.g ∧ a.g ≤ 4294967295
  · have HOK := Lib.hid h2
    have HR : Hid (1 ≤ a.y → a.y ≤ 3 → 1 ≤ a.n → a.n ≤ 3 → E = 0) := fun k1 k2 k3 k4 => HZ.out ⟨by omega, by omega, h2.1, h2.2.1, h2.2.2.1, h2.2.2.2.1, h2.2.2.2.2.1, h2.2.2.2.2.2, k1, k2, k3, k4⟩
    have HY1 : Hid (¬ (1 ≤ a.y ∧ a.y ≤ 3 ∧ 1 ≤ a.n ∧ a.n ≤ 3) → E = 2) := fun h => HY.out fun k => h ⟨k.y0, k.y1, k.n0, k.n1⟩
    clear h2 HY HZ
    go_enter Tryz.func20, Tryz.ntmps20
    unfold Att.val
    go_wp2_with fail
    refine (routI_ok _ _ _ HOK.out _).mono ?_
    rintro e w1 ⟨rfl, hb1⟩
    have HB1 := Lib.hid (bel2 HB0.out hb1)
    obtain ⟨d0, d1, d2, d3, d4, d5⟩ := six_new (HBX.out.below hb1)
    simp only [Nat.zero_add] at d0 d1 d2 d3 d4 d5
    clear hb1
    by_cases k1 : a.y < 1
    · have H := HY1.out (by omega)
      go_wp2
      go_ret
      exact ⟨(by first | rfl | (rw [H]; rfl)), HB1.out⟩
    by_cases k2 : 3 < a.y
    · have H := HY1.out (by omega)
      go_wp2
      go_ret
      exact ⟨(by first | rfl | (rw [H]; rfl)), HB1.out⟩
    by_cases k3 : a.n < 1
    · have H := HY1.out (by omega)
      go_wp2
      go_ret
      exact ⟨(by first | rfl | (rw [H]; rfl)), HB1.out⟩
    by_cases k4 : 3 < a.n
    · have H := HY1.out (by omega)
      go_wp2
      go_ret
      exact ⟨(by first | rfl | (rw [H]; rfl)), HB1.out⟩
    have H := HR.out (by omega) (by omega) (by omega) (by omega)
    go_wp2
    go_ret
    exact ⟨(by first | rfl | (rw [H]; rfl)), HB1.out⟩
  · have HNO := Lib.hid h2
    have H := HY.out fun k => h2 ⟨k.k0, k.k1, k.i0, k.i1, k.g0, k.g1⟩
    clear h2 HY HZ
    go_enter Tryz.func20, Tryz.ntmps20
    unfold Att.val
    go_wp2_with fail
    refine (routI_bad _ _ _ HO.out HNO.out _).mono ?_
    rintro e w1 ⟨rfl, hb1⟩
    go_wp2
    go_ret
    exact ⟨(by first | rfl | (rw [H]; rfl)), bel2 HB0.out hb1⟩
end Go.Proofs.YtenggngcigkakaaGreatDoor

namespace Go.Proofs.YtenggngcigkakaaGreatDoor
open Go.RowKit Go.ChangeShapes

theorem why_at (j : Nat) (h : j < 3) : (#[.string ⟨#[99, 108, 111, 115, 101]⟩, .string ⟨#[101, 120, 112, 105, 114, 121]⟩, .string ⟨#[99, 111, 108, 108, 101, 99, 116]⟩] : Array Value)[j]? = some (.string (bstr (whyW ((j : Int) + 1)))) := by
  match j, h with
  | 0, _ => rfl
  | 1, _ => rfl
  | 2, _ => rfl
theorem ans_at (j : Nat) (h : j < 3) : (#[.string ⟨#[111, 107]⟩, .string ⟨#[108, 97, 116, 101, 114]⟩, .string ⟨#[102, 97, 105, 108]⟩] : Array Value)[j]? = some (.string (bstr (ansW ((j : Int) + 1)))) := by
  match j, h with
  | 0, _ => rfl
  | 1, _ => rfl
  | 2, _ => rfl
theorem rotextI (a : Att) (h : a.Ok) (w : World) : Calls Tryz.prog 87 #[.agg #[.int .i64 a.k, .int .i64 a.i, .int .u32 a.g]] w fun e w' => e = .returned (.tuple #[.string (bstr (txt 58 a.k.toNat a.i.toNat a.g.toNat)), .int .i64 0]) ∧ Below w.heap.size w w' := by
  have h1 := rotext_ok a.k.toNat a.i.toNat a.g.toNat h.okn w
  rw [show ((a.k.toNat : Nat) : Int) = a.k from Int.toNat_of_nonneg (by have := h.k0; omega), show ((a.i.toNat : Nat) : Int) = a.i from Int.toNat_of_nonneg h.i0, show ((a.g.toNat : Nat) : Int) = a.g from Int.toNat_of_nonneg (by have := h.g0; omega)] at h1
  exact h1
theorem rdigI (t : Int) (h0 : 0 ≤ t) (h1 : t ≤ 1099511627776) (w : World) : Calls Tryz.prog 88 #[.int .i64 t] w fun e w' => e = .returned (.string (bstr (Lib.decDigits t.toNat))) ∧ Below w.heap.size w w' := by
  have h := rdig_any t.toNat (by omega) w
  rw [Int.toNat_of_nonneg h0] at h
  exact h
set_option maxRecDepth 100000 in
set_option maxHeartbeats 4000000 in
theorem rline_ok (a : Att) (h : a.Ok) (w : World) : Calls Tryz.prog 65 #[a.val] w fun e w' => e = .returned (.string (bstr (aText a))) ∧ Below w.heap.size w w' := by
  have hx := aText_size h
  rw [← cat_line]
  have hs1 : (bstr (Lib.decDigits a.t.toNat)).size ≤ 50 := by rw [bstr_size]; unfold aText at hx; simp only [List.length_append] at hx; omega
  have hs2 : (bstr (txt 58 a.k.toNat a.i.toNat a.g.toNat)).size ≤ 50 := by rw [bstr_size]; unfold aText at hx; simp only [List.length_append, List.length_cons] at hx; omega
  have hs3 : (bstr (whyW a.y)).size ≤ 7 := by rw [bstr_size]; exact (whyW_len _).2
  have hs4 : (bstr (ansW a.n)).size ≤ 5 := by rw [bstr_size]; exact (ansW_len _).2
  obtain ⟨yy, hyy⟩ : ∃ y : Nat, a.y = (y : Int) + 1 := ⟨(a.y - 1).toNat, by have := h.y0; omega⟩
  obtain ⟨nn, hnn⟩ : ∃ n : Nat, a.n = (n : Int) + 1 := ⟨(a.n - 1).toNat, by have := h.n0; omega⟩
  have hy1 : yy < 3 := by have := h.y1; omega
  have hn1 : nn < 3 := by have := h.n1; omega
  have HF : Hid (∀ W, Calls Tryz.prog 88 #[.int .i64 a.t] W fun e w' => e = .returned (.string (bstr (Lib.decDigits a.t.toNat))) ∧ Below W.heap.size W w') := fun W => rdigI a.t h.t0 h.t1 W
  have HO : Hid (∀ W, Calls Tryz.prog 87 #[.agg #[.int .i64 a.k, .int .i64 a.i, .int .u32 a.g]] W fun e w' => e = .returned (.tuple #[.string (bstr (txt 58 a.k.toNat a.i.toNat a.g.toNat)), .int .i64 0]) ∧ Below W.heap.size W w') := fun W => rotextI a h W
  have hw1 := why_at yy hy1
  have hw2 := ans_at nn hn1
  rw [← hyy] at hw1
  rw [← hnn] at hw2
  obtain ⟨W3, hW3⟩ : ∃ W3, ((w.alloc (.cells #[.int .i64 a.t, .int .i64 a.k, .int .i64 a.i, .int .u32 a.g, .int .i64 a.y, .int .i64 a.n] 32)).alloc (.cells #[.string ⟨#[99, 108, 111, 115, 101]⟩, .string ⟨#[101, 120, 112, 105, 114, 121]⟩, .string ⟨#[99, 111, 108, 108, 101, 99, 116]⟩] 9)).alloc (.cells #[.string ⟨#[111, 107]⟩, .string ⟨#[108, 97, 116, 101, 114]⟩, .string ⟨#[102, 97, 105, 108]⟩] 9) = W3 := ⟨_, rfl⟩
  have hB3 := bel2 (bel_new w (.cells #[.int .i64 a.t, .int .i64 a.k, .int .i64 a.i, .int .u32 a.g, .int .i64 a.y, .int .i64 a.n] 32)) (bel2 (bel_new _ (.cells #[.string ⟨#[99, 108, 111, 115, 101]⟩, .string ⟨#[101, 120, 112, 105, 114, 121]⟩, .string ⟨#[99, 111, 108, 108, 101, 99, 116]⟩] 9)) (bel_new _ (.cells #[.string ⟨#[111, 107]⟩, .string ⟨#[108, 97, 116, 101, 114]⟩, .string ⟨#[102, 97, 105, 108]⟩] 9)))
  have hbx : Bk (w.alloc (.cells #[.int .i64 a.t, .int .i64 a.k, .int .i64 a.i, .int .u32 a.g, .int .i64 a.y, .int .i64 a.n] 32)) w.heap.size 32 a.cl.toArray := Bk.new w _ _
  have hbx3 := (hbx.up (.cells #[.string ⟨#[99, 108, 111, 115, 101]⟩, .string ⟨#[101, 120, 112, 105, 114, 121]⟩, .string ⟨#[99, 111, 108, 108, 101, 99, 116]⟩] 9)).up (.cells #[.string ⟨#[111, 107]⟩, .string ⟨#[108, 97, 116, 101, 114]⟩, .string ⟨#[102, 97, 105, 108]⟩] 9)
  have hby := Bk.new (w.alloc (.cells #[.int .i64 a.t, .int .i64 a.k, .int .i64 a.i, .int .u32 a.g, .int .i64 a.y, .int .i64 a.n] 32)) 9 #[.string ⟨#[99, 108, 111, 115, 101]⟩, .string ⟨#[101, 120, 112, 105, 114, 121]⟩, .string ⟨#[99, 111, 108, 108, 101, 99, 116]⟩]
  rw [size_up] at hby
  have hby3 := hby.up (.cells #[.string ⟨#[111, 107]⟩, .string ⟨#[108, 97, 116, 101, 114]⟩, .string ⟨#[102, 97, 105, 108]⟩] 9)
  have hbn := Bk.new ((w.alloc (.cells #[.int .i64 a.t, .int .i64 a.k, .int .i64 a.i, .int .u32 a.g, .int .i64 a.y, .int .i64 a.n] 32)).alloc (.cells #[.string ⟨#[99, 108, 111, 115, 101]⟩, .string ⟨#[101, 120, 112, 105, 114, 121]⟩, .string ⟨#[99, 111, 108, 108, 101, 99, 116]⟩] 9)) 9 #[.string ⟨#[111, 107]⟩, .string ⟨#[108, 97, 116, 101, 114]⟩, .string ⟨#[102, 97, 105, 108]⟩]
  rw [size_up, size_up] at hbn
  rw [hW3] at hB3 hbx3 hby3 hbn
  have HB3 := Lib.hid hB3
  have HBX := Lib.hid hbx3
  have HQ : Hid (W3.cell? ⟨w.heap.size + 1, yy, none⟩ = some (.string (bstr (whyW a.y))) ∧ W3.cell? ⟨w.heap.size + 1 + 1, nn, none⟩ = some (.string (bstr (ansW a.n)))) := ⟨(hby3.cell yy).trans hw1, (hbn.cell nn).trans hw2⟩
  have HYY := Lib.hid hyy
  have HNN := Lib.hid hnn
  have HW3 := Lib.hid hW3
  clear h hx hyy hnn hB3 hbx hbx3 hby hby3 hbn hw1 hw2 hW3
  generalize bstr (Lib.decDigits a.t.toNat) = SD at *
  generalize bstr (txt 58 a.k.toNat a.i.toNat a.g.toNat) = SO at *
  generalize bstr (whyW a.y) = SY at *
  generalize bstr (ansW a.n) = SN at *
  unfold Att.val
  go_enter Tryz.func65, Tryz.ntmps65
  go_wp2_with fail
  rw [HW3.out]
  refine (HO.out _).mono ?_
  rintro e w1 ⟨rfl, hb1⟩
  have HB1 := Lib.hid (bel2 HB3.out hb1)
  obtain ⟨d0, d1, d2, d3, d4, d5⟩ := six_new (HBX.out.below hb1)
  simp only [Nat.zero_add] at d0 d1 d2 d3 d4 d5
  have q1 := cell_stays hb1 HQ.out.1
  have q2 := cell_stays hb1 HQ.out.2
  rw [HYY.out] at d4
  rw [HNN.out] at d5
  clear hb1 d1 d2 d3
  go_wp2
  have hz0 := And.intro d0 (And.intro d4 (And.intro d5 (And.intro q1 q2)))
  clear d0 d4 d5 q1 q2
  have f1 : ¬ 9223372036854775807 < SD.size + 1 := by omega
  have f2 : ¬ 9223372036854775807 < SD.size + 1 + SO.size := by omega
  have f3 : ¬ 9223372036854775807 < SD.size + 1 + SO.size + 1 := by omega
  have f4 : ¬ 9223372036854775807 < SD.size + 1 + SO.size + 1 + SY.size := by omega
  have f5 : ¬ 9223372036854775807 < SD.size + 1 + SO.size + 1 + SY.size + 1 := by omega
  have f6 : ¬ 9223372036854775807 < SD.size + 1 + SO.size + 1 + SY.size + 1 + SN.size := by omega
  have u1 : IntKind.i64.wrap ((yy : Int) + 1 - 1) = (yy : Int) := by rw [IntKind.wrap_i64]; omega
  have u2 : IntKind.i64.wrap ((nn : Int) + 1 - 1) = (nn : Int) := by rw [IntKind.wrap_i64]; omega
  have u3 : IntKind.i64.wrap (yy : Int) = (yy : Int) := by rw [IntKind.wrap_i64]; omega
  have u4 : IntKind.i64.wrap (nn : Int) = (nn : Int) := by rw [IntKind.wrap_i64]; omega
  have c1 : (0 : Int) ≤ (yy : Int) := by omega
  have c2 : (yy : Int) < 3 := by omega
  have c3 : (0 : Int) ≤ (nn : Int) := by omega
  have c4 : (nn : Int) < 3 := by omega
  go_region_held3 (fun W => W.cell? ⟨w.heap.size, 0, none⟩ = some (.int .i64 a.t) ∧ W.cell? ⟨w.heap.size, 4, none⟩ = some (.int .i64 ((yy : Int) + 1)) ∧ W.cell? ⟨w.heap.size, 5, none⟩ = some (.int .i64 ((nn : Int) + 1)) ∧ W.cell? ⟨w.heap.size + 1, yy, none⟩ = some (.string SY) ∧ W.cell? ⟨w.heap.size + 1 + 1, nn, none⟩ = some (.string SN)) (first | (with_reducible exact hz1) | exact hz0)
    (first | (go_at_call 88; refine (HF.out _).mono ?_; rintro e w3 ⟨rfl, hb3⟩; have hz1 := And.intro (cell_stays hb3 hz0.1) (And.intro (cell_stays hb3 hz0.2.1) (And.intro (cell_stays hb3 hz0.2.2.1) (And.intro (cell_stays hb3 hz0.2.2.2.1) (cell_stays hb3 hz0.2.2.2.2))))))
  all_goals
    clear hz0 hz1
    go_wp2
    go_ret
    exact ⟨rfl, bel2 HB1.out (bel2 (bel_drew (Below.refl _ _)) hb3)⟩
end Go.Proofs.YtenggngcigkakaaGreatDoor

namespace Go.Proofs.YtenggngcigkakaaGreatDoor
open Go.RowKit Go.ChangeShapes

set_option maxRecDepth 100000 in
set_option maxHeartbeats 4000000 in
theorem rprint_bad (a : Option Addr) (n c : Nat) (l : List Att) (w : World) (hr : RdA w (.slice a n c) l) (hg : AllRg l) (h : ¬ AllOk l) : Calls Tryz.prog 36 #[.slice a n c] w (TextV [] 2 w) := by
  have HG := Lib.hid hg
  have HNO := Lib.hid h
  obtain ⟨rfl, hcap, hcm, _⟩ := hr.cap
  have HR := Lib.hid hr
  clear hr hg h
  go_enter Tryz.func36, Tryz.ntmps36
  go_wp2
  go_loopw [4] (fun i wr => ∃ j : Nat, j ≤ l.length ∧ i = .int .i64 j ∧ Hid (AllOk (l.take j)) ∧ Hid (Below w.heap.size w wr)) (fun i _ => l.length - (intOf i).toNat)
  case atStart => exact ⟨0, Nat.zero_le _, rfl, allOk_nil, Below.refl _ _⟩
  case round =>
    obtain ⟨j, hj, rfl, HO, HB⟩ := hrel
    by_cases hlt : j < l.length
    · obtain ⟨gl, off, rfl, hgl, hsix⟩ := (HR.out.below HB.out).cell hlt
      have HXR := Lib.hid (HG.out _ (List.getElem_mem hlt))
      have HS1 := Lib.hid (List.take_succ_eq_append_getElem hlt)
      generalize l[j] = x at *
      obtain ⟨c0, c1, c2, c3, c4, c5⟩ := hsix
      have HC := Lib.hid (rchk_att x HXR.out wr)
      unfold ChkV at HC
      by_cases hx : x.Ok
      · have HX := Lib.hid hx
        rw [chkE_ok hx] at HC
        clear hx
        go_wp2_with fail
        refine HC.out.mono ?_
        rintro e w3 ⟨rfl, hb3⟩
        have HB3 := Lib.hid (bel2 HB.out hb3)
        clear hb3 c0 c1 c2 c3 c4 c5 HC
        go_wp2
        go_roundw
        case rel => exact ⟨j + 1, by omega, by go_num, by rw [Hid, HS1.out, allOk_append]; exact ⟨HO.out, fun y hy => by obtain rfl := List.mem_singleton.1 hy; exact HX.out⟩, HB3.out⟩
        case measure => simp [intOf]; omega
      · rw [chkE_bad hx] at HC
        clear hx
        go_wp2_with fail
        refine HC.out.mono ?_
        rintro e w3 ⟨rfl, hb3⟩
        have HB3 := Lib.hid (bel2 HB.out hb3)
        clear hb3 c0 c1 c2 c3 c4 c5 HC
        go_wp2
        go_ret2
        exact ⟨rfl, HB3.out⟩
    · obtain rfl : j = l.length := by omega
      exact absurd (by have := HO.out; rwa [List.take_length] at this) HNO.out
theorem bstr_line (l : List Att) (j : Nat) (h : j < l.length) : bstr (lines (l.take j)) ++ bstr (aText l[j]) ++ ⟨#[10]⟩ = bstr (lines (l.take (j + 1))) := by
  rw [lines_snoc l j h, show (⟨#[10]⟩ : ByteArray) = bstr [10] from rfl, bstr_append, bstr_append, List.append_assoc]
theorem lines_pre (l : List Att) (j : Nat) : (lines (l.take j)).length ≤ (lines l).length := by
  have h := List.take_append_drop j l
  rw [show lines l = lines (l.take j ++ l.drop j) by rw [h], lines_append, List.length_append]
  omega
set_option maxRecDepth 100000 in
set_option maxHeartbeats 4000000 in
theorem rprint_ok (a : Option Addr) (n c : Nat) (l : List Att) (w : World) (hr : RdA w (.slice a n c) l) (h : AllOk l) : Calls Tryz.prog 36 #[.slice a n c] w (TextV (if (lines l).length ≤ 65536 then lines l else []) (if (lines l).length ≤ 65536 then 0 else 10) w) := by
  have HG := Lib.hid h.rg
  have HOK := Lib.hid h
  obtain ⟨rfl, hcap, hcm, _⟩ := hr.cap
  have HR := Lib.hid hr
  have HTE : Hid (((lines l).length ≤ 65536 → (if (lines l).length ≤ 65536 then lines l else []) = lines l ∧ (if (lines l).length ≤ 65536 then (0 : Int) else 10) = 0) ∧ (65536 < (lines l).length → (if (lines l).length ≤ 65536 then lines l else []) = [] ∧ (if (lines l).length ≤ 65536 then (0 : Int) else 10) = 10)) := ⟨fun h => ⟨if_pos h, if_pos h⟩, fun h => ⟨if_neg (by omega), if_neg (by omega)⟩⟩
  generalize (if (lines l).length ≤ 65536 then lines l else []) = T at *
  generalize (if (lines l).length ≤ 65536 then (0 : Int) else 10) = E at *
  clear hr h
  go_enter Tryz.func36, Tryz.ntmps36
  go_wp2
  go_loopw [4] (fun i wr => ∃ j : Nat, j ≤ l.length ∧ i = .int .i64 j ∧ Hid (Below w.heap.size w wr)) (fun i _ => l.length - (intOf i).toNat)
  case atStart => exact ⟨0, Nat.zero_le _, rfl, Below.refl _ _⟩
  case round =>
    obtain ⟨j, hj, rfl, HB⟩ := hrel
    by_cases hlt : j < l.length
    · obtain ⟨gl, off, rfl, hgl, hsix⟩ := (HR.out.below HB.out).cell hlt
      have HX := Lib.hid (HOK.out _ (List.getElem_mem hlt))
      generalize l[j] = x at *
      obtain ⟨c0, c1, c2, c3, c4, c5⟩ := hsix
      have HC := Lib.hid (rchk_att x HX.out.rg wr)
      unfold ChkV at HC
      rw [chkE_ok HX.out] at HC
      go_wp2_with fail
      refine HC.out.mono ?_
      rintro e w3 ⟨rfl, hb3⟩
      have HB3 := Lib.hid (bel2 HB.out hb3)
      clear hb3 c0 c1 c2 c3 c4 c5 HC
      go_wp2
      go_roundw
      case rel => exact ⟨j + 1, by omega, by go_num, HB3.out⟩
      case measure => simp [intOf]; omega
    · obtain rfl : j = l.length := by omega
      clear hlt
      go_wp2
      go_loopw [5, 6] (fun t i wr => ∃ (q : Nat) (S : ByteArray), q ≤ l.length ∧ i = .int .i64 q ∧ t = .string S ∧ S.size ≤ 65536 ∧ Hid (S = bstr (lines (l.take q))) ∧ Hid (Below w.heap.size w wr)) (fun _ i _ => l.length - (intOf i).toNat)
      case atStart => exact ⟨0, ⟨#[]⟩, Nat.zero_le _, rfl, rfl, Nat.zero_le _, rfl, HB⟩
      case round =>
        obtain ⟨q, S, hq, rfl, rfl, hS, HSL, HB2⟩ := hrel
        by_cases hlq : q < l.length
        · obtain ⟨gl, off, rfl, hgl, hsix⟩ := (HR.out.below HB2.out).cell hlq
          have HX := Lib.hid (HOK.out _ (List.getElem_mem hlq))
          have HBL := Lib.hid (bstr_line l q hlq)
          have hxl := (aText_size HX.out).2
          generalize l[q] = x at *
          obtain ⟨c0, c1, c2, c3, c4, c5⟩ := hsix
          have HLN := Lib.hid (rline_ok x HX.out wr)
          obtain ⟨X, hX⟩ : ∃ X, bstr (aText x) = X := ⟨_, rfl⟩
          have hXs : X.size ≤ 50 := by rw [← hX, bstr_size]; exact hxl
          rw [hX] at HLN
          rw [hX, ← HSL.out] at HBL
          obtain ⟨Y, hY⟩ : ∃ Y, S ++ X ++ ⟨#[10]⟩ = Y := ⟨_, rfl⟩
          have HYS : Hid (Y.size = S.size + X.size + 1) := by rw [Hid]; rw [← hY, ByteArray.size_append, ByteArray.size_append]; rfl
          have HY := Lib.hid hY
          rw [hY] at HBL
          have f1 : ¬ 9223372036854775807 < S.size + X.size := by omega
          have f2 : ¬ 9223372036854775807 < S.size + X.size + 1 := by omega
          clear hX hY hxl hgl
          by_cases hov : 65536 < S.size + X.size + 1
          · have hI : ((65536 : Int) < (S.size : Int) + (X.size : Int) + 1) = True := eq_true (by omega)
            have HOV := Lib.hid hov
            clear hov
            go_wp2_with fail
            refine HLN.out.mono ?_
            rintro e w3 ⟨rfl, hb3⟩
            have HB3 := Lib.hid (bel2 HB2.out hb3)
            clear hb3 c0 c1 c2 c3 c4 c5 HLN
            go_wp2
            go_ret2
            have hbig : 65536 < (lines l).length := by
              have h1 := lines_pre l (q + 1)
              have h2 : Y.size = (lines (l.take (q + 1))).length := by rw [HBL.out, bstr_size]
              have h5 := HOV.out
              have h6 := HYS.out
              omega
            obtain ⟨h3, h4⟩ := HTE.out.2 hbig
            subst h3 h4
            exact ⟨rfl, HB3.out⟩
          · have hI : ((65536 : Int) < (S.size : Int) + (X.size : Int) + 1) = False := eq_false (by omega)
            have HOV : Hid (Y.size ≤ 65536) := by have h6 := HYS.out; rw [Hid]; omega
            clear hov
            go_wp2_with fail
            refine HLN.out.mono ?_
            rintro e w3 ⟨rfl, hb3⟩
            have HB3 := Lib.hid (bel2 HB2.out hb3)
            clear hb3 c0 c1 c2 c3 c4 c5 HLN
            go_wp2
            rw [HY.out]
            go_roundw
            case rel => exact ⟨q + 1, Y, by omega, by go_num, rfl, HOV.out, HBL.out, HB3.out⟩
            case measure => simp [intOf]; omega
        · obtain rfl : q = l.length := by omega
          clear hlq
          have HFN : Hid (T = lines l ∧ E = 0) := by
            have h1 := HSL.out
            rw [List.take_length] at h1
            exact HTE.out.1 (by rw [← bstr_size, ← h1]; exact hS)
          go_wp2
          go_ret2
          obtain ⟨h3, h4⟩ := HFN.out
          rw [h3, h4]
          have h1 := HSL.out
          rw [List.take_length] at h1
          unfold TextV
          rw [← h1]
          exact ⟨rfl, HB2.out⟩
end Go.Proofs.YtenggngcigkakaaGreatDoor
