/- The document's side: digits, Check, line, Print. -/
import Derived.Test.YtenggngcigkakaaGreatDoorIi
namespace Go.Proofs.YtenggngcigkakaaGreatDoor
open Go.RowKit Go.ChangeShapes

/-! ### digits -/
set_option maxHeartbeats 400000 in
theorem rdig_one (u : Nat) (hu : u < 10) (w : World) :
    Calls Tryz.prog 88 #[.int .i64 u] w fun e w' => e = .returned (.string (bstr (Lib.decDigits u))) ∧ Below w.heap.size w w' := by
  unfold bstr
  rw [Lib.decDigits_one hu]
  have e8 : ((UInt8.ofNat (48 + u)).toNat : Int) = 48 + (u : Int) := by have := toNat_digit u hu; omega
  generalize UInt8.ofNat (48 + u) = b at e8 ⊢
  have hcv := fun (W : World) (p : Nat) (hW : W.cell? ⟨p, 0, none⟩ = some (.int .u8 b.toNat)) => conv_one 95 W p b Tryz.underlying95 hW
  rw [e8] at hcv
  clear e8
  go_enter Tryz.func88, Tryz.ntmps88
  go_wp2
  go_ret
  exact ⟨rfl, (Below.refl _ _).alloc (Nat.le_refl _) _⟩
open Go.Lib in
theorem dig_len13 (u : Nat) (h : u ≤ 1099511627776) : (Lib.decDigits u).length ≤ 13 := by
  have h1 := decDigits_length u
  have h5 : nDigits u ≤ 13 := by
    refine nDigits_le 12 _ ?_
    have h3 : (10 : Nat) ^ (12 + 1) = 10000000000000 := by decide
    omega
  omega
set_option maxHeartbeats 1000000 in
theorem rdig_more (u : Nat) (hu : ¬ u < 10) (hu' : u ≤ 1099511627776) (w : World)
    (ih : ∀ W : World, Calls Tryz.prog 88 #[.int .i64 ((u : Int) / 10)] W fun e w' => e = .returned (.string ⟨(Lib.decDigits (u / 10)).toArray⟩) ∧ Below W.heap.size W w') :
    Calls Tryz.prog 88 #[.int .i64 u] w fun e w' => e = .returned (.string ⟨(Lib.decDigits u).toArray⟩) ∧ Below w.heap.size w w' := by
  have hd : Lib.decDigits u = Lib.decDigits (u / 10) ++ [UInt8.ofNat (48 + u % 10)] := by rw [Lib.decDigits, dif_neg hu]
  rw [hd, ← bytes_append]
  have e8 : ((UInt8.ofNat (48 + u % 10)).toNat : Int) = 48 + (u : Int) % 10 := by have := toNat_digit (u % 10) (by omega); omega
  generalize UInt8.ofNat (48 + u % 10) = b at e8 ⊢
  have hl : (Lib.decDigits (u / 10)).length ≤ 13 := dig_len13 _ (by omega)
  generalize Lib.decDigits (u / 10) = l at ih hl ⊢
  have hcv := fun (W : World) (p : Nat) (hW : W.cell? ⟨p, 0, none⟩ = some (.int .u8 b.toNat)) => conv_one 95 W p b Tryz.underlying95 hW
  rw [e8] at hcv
  have HI := Lib.hid ih
  clear ih e8 hd
  have q1 : IntKind.i64.wrap ((u : Int) / 10) = (u : Int) / 10 := by rw [IntKind.wrap_i64]; omega
  have q2 : (u : Int).tmod 10 = (u : Int) % 10 := IntWalk.rem_in _ _ (by omega)
  have q3 : IntKind.i64.wrap (48 + (u : Int) % 10) = 48 + (u : Int) % 10 := by rw [IntKind.wrap_i64]; omega
  have q4 : IntKind.u8.wrap (48 + (u : Int) % 10) = 48 + (u : Int) % 10 := IntWalk.u8_in _ (by omega)
  go_enter Tryz.func88, Tryz.ntmps88
  go_wp2
  go_region_with (go_at_call 88; refine (HI.out _).mono ?_; rintro e w1 ⟨rfl, hb1⟩; obtain ⟨hcc, hff⟩ := bcell hb1; clear hff)
  all_goals
    clear q1 q2 q3 q4 hcc hcv
    go_wp2
    go_ret
    first
      | exact ⟨rfl, bel_a hb1 _⟩
      | exact ⟨rfl, bel_b hb1⟩
theorem rdig_any (u : Nat) : ∀ (_ : u ≤ 1099511627776) (w : World),
    Calls Tryz.prog 88 #[.int .i64 u] w fun e w' => e = .returned (.string (bstr (Lib.decDigits u))) ∧ Below w.heap.size w w' := by
  induction u using Nat.strongRecOn with
  | _ u ih =>
    intro hu w
    by_cases h : u < 10
    · exact rdig_one u h w
    · refine rdig_more u h hu w fun W => ?_
      have := ih (u / 10) (by omega) (by omega) W
      rwa [show (((u / 10 : Nat) : Int)) = (u : Int) / 10 by omega] at this

/-! ### Check -/
theorem routI_ok (k i g : Int) (h : 1 ≤ k ∧ k ≤ 3 ∧ 0 ≤ i ∧ i < 64 ∧ 1 ≤ g ∧ g ≤ 4294967295) (w : World) :
    Calls Tryz.prog 54 #[.agg #[.int .i64 k, .int .i64 i, .int .u32 g]] w fun e w' => e = .returned (.int .i64 0) ∧ Below w.heap.size w w' := by
  obtain ⟨a, rfl⟩ : ∃ a : Nat, k = a := ⟨k.toNat, by omega⟩
  obtain ⟨b, rfl⟩ : ∃ a : Nat, i = a := ⟨i.toNat, by omega⟩
  obtain ⟨c, rfl⟩ : ∃ a : Nat, g = a := ⟨g.toNat, by omega⟩
  exact rochk_ok a b c ⟨by omega, by omega, by omega, by omega, by omega⟩ w
theorem routI_bad (k i g : Int) (hr : RgO k i g) (h : ¬ (1 ≤ k ∧ k ≤ 3 ∧ 0 ≤ i ∧ i < 64 ∧ 1 ≤ g ∧ g ≤ 4294967295)) (w : World) :
    Calls Tryz.prog 54 #[.agg #[.int .i64 k, .int .i64 i, .int .u32 g]] w fun e w' => e = .returned (.int .i64 2) ∧ Below w.heap.size w w' := by
  obtain ⟨h1, h2, h3, h4, h5, h6⟩ := hr
  exact rochk_bad k i g ⟨h1, h2, h3, h4, h5, h6⟩ (by unfold Bad; omega) w
set_option maxRecDepth 100000 in
set_option maxHeartbeats 2000000 in
theorem rchk_att (a : Att) (hr : a.Rg) (w : World) : Calls Tryz.prog 20 #[a.val] w (ChkV a w) := by
  obtain ⟨E, hE⟩ : ∃ E, chkE a = E := ⟨_, rfl⟩
  unfold ChkV
  rw [hE]
  have HO := Lib.hid hr.o
  have HY : Hid (¬ a.Ok → E = 2) := fun h => by rw [← hE]; exact chkE_bad h
  have HZ : Hid (a.Ok → E = 0) := fun h => by rw [← hE]; exact chkE_ok h
  have HB0 := Lib.hid (bel_new w (.cells #[.int .i64 a.t, .int .i64 a.k, .int .i64 a.i, .int .u32 a.g, .int .i64 a.y, .int .i64 a.n] 32))
  have hbox : Bk (w.alloc (.cells #[.int .i64 a.t, .int .i64 a.k, .int .i64 a.i, .int .u32 a.g, .int .i64 a.y, .int .i64 a.n] 32)) w.heap.size 32 a.cl.toArray := Bk.new w _ _
  have HBX := Lib.hid hbox
  clear hr hE hbox
  by_cases h0 : a.t < 0
  · have H := HY.out fun h => absurd h.t0 (by omega)
    clear HY HZ
    obtain ⟨t, k, i, g, y, n⟩ := a
    simp only [Att.val] at *
    go_enter Tryz.func20, Tryz.ntmps20
    go_wp2
    go_ret
    exact ⟨(by first | rfl | (rw [H]; rfl)), HB0.out⟩
  by_cases h1 : 1099511627776 < a.t
  · have H := HY.out fun h => absurd h.t1 (by omega)
    clear HY HZ
    obtain ⟨t, k, i, g, y, n⟩ := a
    simp only [Att.val] at *
    go_enter Tryz.func20, Tryz.ntmps20
    go_wp2
    go_ret
    exact ⟨(by first | rfl | (rw [H]; rfl)), HB0.out⟩
  by_cases h2 : 1 ≤ a.k ∧ a.k ≤ 3 ∧ 0 ≤ a.i ∧ a.i < 64 ∧ 1 ≤ a.g ∧ a.g ≤ 4294967295
  · have HOK := Lib.hid h2
    have HR : Hid (1 ≤ a.y → a.y ≤ 3 → 1 ≤ a.n → a.n ≤ 3 → E = 0) := fun k1 k2 k3 k4 => HZ.out ⟨by omega, by omega, h2.1, h2.2.1, h2.2.2.1, h2.2.2.2.1, h2.2.2.2.2.1, h2.2.2.2.2.2, k1, k2, k3, k4⟩
    have HY1 : Hid (¬ (1 ≤ a.y ∧ a.y ≤ 3 ∧ 1 ≤ a.n ∧ a.n ≤ 3) → E = 2) := fun h => HY.out fun k => h ⟨k.y0, k.y1, k.n0, k.n1⟩
    clear h2 HY HZ
    go_enter Tryz.func20, Tryz.ntmps20
    unfold Att.val
    go_wp2_with fail
    refine (routI_ok _ _ _ HOK.out _).mono ?_
    rintro e w1 ⟨rfl, hb1⟩
    have HB1 := Lib.hid (bel2 HB0.out hb1)
    obtain ⟨d0, d1, d2, d3, d4, d5⟩ := six_new (HBX.out.below hb1)
    simp only [Nat.zero_add] at d0 d1 d2 d3 d4 d5
    clear hb1
    by_cases k1 : a.y < 1
    · have H := HY1.out (by omega)
      go_wp2
      go_ret
      exact ⟨(by first | rfl | (rw [H]; rfl)), HB1.out⟩
    by_cases k2 : 3 < a.y
    · have H := HY1.out (by omega)
      go_wp2
      go_ret
      exact ⟨(by first | rfl | (rw [H]; rfl)), HB1.out⟩
    by_cases k3 : a.n < 1
    · have H := HY1.out (by omega)
      go_wp2
      go_ret
      exact ⟨(by first | rfl | (rw [H]; rfl)), HB1.out⟩
    by_cases k4 : 3 < a.n
    · have H := HY1.out (by omega)
      go_wp2
      go_ret
      exact ⟨(by first | rfl | (rw [H]; rfl)), HB1.out⟩
    have H := HR.out (by omega) (by omega) (by omega) (by omega)
    go_wp2
    go_ret
    exact ⟨(by first | rfl | (rw [H]; rfl)), HB1.out⟩
  · have HNO := Lib.hid h2
    have H := HY.out fun k => h2 ⟨k.k0, k.k1, k.i0, k.i1, k.g0, k.g1⟩
    clear h2 HY HZ
    go_enter Tryz.func20, Tryz.ntmps20
    unfold Att.val
    go_wp2_with fail
    refine (routI_bad _ _ _ HO.out HNO.out _).mono ?_
    rintro e w1 ⟨rfl, hb1⟩
    go_wp2
    go_ret
    exact ⟨(by first | rfl | (rw [H]; rfl)), bel2 HB0.out hb1⟩
end Go.Proofs.YtenggngcigkakaaGreatDoor
