/- The contracts of the program's text, number and read. -/
import Derived.Test.YtenggngcigkakaaGreatDoorHc
import Derived.Test.YtenggngcigkakaaGreatDoorDy
import Derived.Deep.RegionHeld3
import Derived.Laws.ResultCell
import Derived.IntWalk
namespace Go.Proofs.YtenggngcigkakaaGreatDoor
open Go.RowKit

def bstr (l : List UInt8) : ByteArray := ⟨l.toArray⟩
theorem bstr_size (l : List UInt8) : (bstr l).size = l.length := by simp [bstr, ByteArray.size]
theorem bstr_data (l : List UInt8) : (bstr l).data.toList = l := rfl
theorem bstr_of (s : ByteArray) : bstr s.data.toList = s := by apply ByteArray.ext; simp [bstr]
theorem bstr_append (a b : List UInt8) : bstr a ++ bstr b = bstr (a ++ b) := by apply ByteArray.ext; simp [bstr]
theorem bstr_inj {a b : List UInt8} (h : bstr a = bstr b) : a = b := congrArg (fun x : ByteArray => x.data.toList) h
theorem size_list (s : ByteArray) : s.size = s.data.toList.length := by rw [Array.length_toList]; rfl
theorem fmtI (t : Int) (h0 : 0 ≤ t) (h1 : t ≤ 1099511627776) (w : World) (he : Env w) :
    Calls Tryz.prog 85 #[.int .i64 t, .int .i64 10] w fun e w' => e = .returned (.string (bstr (Lib.decDigits t.toNat))) ∧ Below w.heap.size w w' := by
  obtain ⟨p, rfl⟩ : ∃ p : Nat, t = p := ⟨t.toNat, by omega⟩
  refine (Tryz.strconv_FormatInt_10 (p : Int) (by omega) (by omega) w he.tab).mono ?_
  rintro e w' ⟨rfl, k, os, rfl⟩
  exact ⟨by rw [Lib.itoa_nonneg]; rfl, Lib.below_grow _ _ (Nat.le_refl _) _ _⟩
theorem otextI (a : Att) (h : a.Ok) (w : World) (he : Env w) :
    Calls Tryz.prog 84 #[.agg #[.int .i64 a.k, .int .i64 a.i, .int .u32 a.g]] w fun e w' => e = .returned (.tuple #[.string (bstr (txt 58 a.k.toNat a.i.toNat a.g.toNat)), .int .i64 0]) ∧ Below w.heap.size w w' := by
  have hk := h.okn
  have := otext_ok a.k.toNat a.i.toNat a.g.toNat hk w he
  obtain ⟨h1, h2, h3, h4, h5, h6, h7, h8, h9, h10, h11, h12⟩ := h
  rwa [show ((a.k.toNat : Nat) : Int) = a.k by omega, show ((a.i.toNat : Nat) : Int) = a.i by omega, show ((a.g.toNat : Nat) : Int) = a.g by omega] at this
theorem cat_line (a : Att) : bstr (Lib.decDigits a.t.toNat) ++ ⟨#[32]⟩ ++ bstr (txt 58 a.k.toNat a.i.toNat a.g.toNat) ++ ⟨#[32]⟩ ++ bstr (whyW a.y) ++ ⟨#[32]⟩ ++ bstr (ansW a.n) = bstr (aText a) := by
  rw [show (⟨#[32]⟩ : ByteArray) = bstr [32] from rfl]
  simp only [bstr_append]
  congr 1
  simp [aText]
theorem Words.why {w : World} {g : Nat} (h : Words w g [99, 108, 111, 115, 101] [101, 120, 112, 105, 114, 121] [99, 111, 108, 108, 101, 99, 116]) {j : Nat} (h1 : 1 ≤ j) (h3 : j ≤ 3) : w.cell? ⟨g, j, none⟩ = some (.string (bstr (whyW j))) := by
  have : j = 1 ∨ j = 2 ∨ j = 3 := by omega
  rcases this with rfl | rfl | rfl
  · exact h.c1
  · exact h.c2
  · exact h.c3
theorem Words.ans {w : World} {g : Nat} (h : Words w g [111, 107] [108, 97, 116, 101, 114] [102, 97, 105, 108]) {j : Nat} (h1 : 1 ≤ j) (h3 : j ≤ 3) : w.cell? ⟨g, j, none⟩ = some (.string (bstr (ansW j))) := by
  have : j = 1 ∨ j = 2 ∨ j = 3 := by omega
  rcases this with rfl | rfl | rfl
  · exact h.c1
  · exact h.c2
  · exact h.c3
/-- A text and an error. -/
def TextV (t : List UInt8) (E : Int) (w : World) (e : Ending) (w' : World) : Prop := e = .returned (.tuple #[.string (bstr t), .int .i64 E]) ∧ Below w.heap.size w w'
set_option maxRecDepth 100000 in
set_option maxHeartbeats 2000000 in
theorem ltext_bad (a : Att) (hr : a.Rg) (h : ¬ a.Ok) (w : World) (he : EnvL w) : Calls Tryz.prog 61 #[a.val] w (TextV [] 2 w) := by
  have HR := Lib.hid hr
  have HN := Lib.hid h
  have HB0 := Lib.hid (bel_new w (.cells #[.int .i64 a.t, .int .i64 a.k, .int .i64 a.i, .int .u32 a.g, .int .i64 a.y, .int .i64 a.n] 32))
  have HE := Lib.hid he
  clear hr he h
  unfold Att.val
  go_enter Tryz.func61, Tryz.ntmps61
  go_wp2_with fail
  refine (chk_att a HR.out _ (HE.out.below HB0.out)).mono ?_
  rintro e w1 ⟨hee, hb1⟩
  rw [chkE_bad HN.out] at hee
  subst hee
  go_wp2
  go_ret2
  exact ⟨rfl, bel2 HB0.out hb1⟩
set_option maxRecDepth 100000 in
set_option maxHeartbeats 4000000 in
theorem ltext_ok (a : Att) (h : a.Ok) (w : World) (he : EnvL w) : Calls Tryz.prog 61 #[a.val] w (TextV (aText a) 0 w) := by
  have HR := Lib.hid h.rg
  have HK := Lib.hid h
  have HB0 := Lib.hid (bel_new w (.cells #[.int .i64 a.t, .int .i64 a.k, .int .i64 a.i, .int .u32 a.g, .int .i64 a.y, .int .i64 a.n] 32))
  have hbox : Bk (w.alloc (.cells #[.int .i64 a.t, .int .i64 a.k, .int .i64 a.i, .int .u32 a.g, .int .i64 a.y, .int .i64 a.n] 32)) w.heap.size 32 a.cl.toArray := Bk.new w _ _
  have HBX := Lib.hid hbox
  have HE := Lib.hid he
  have hx := aText_size h
  unfold TextV
  rw [← cat_line]
  have hs1 : (bstr (Lib.decDigits a.t.toNat)).size ≤ 50 := by rw [bstr_size]; unfold aText at hx; simp only [List.length_append] at hx; omega
  have hs2 : (bstr (txt 58 a.k.toNat a.i.toNat a.g.toNat)).size ≤ 50 := by rw [bstr_size]; unfold aText at hx; simp only [List.length_append, List.length_cons] at hx; omega
  have hs3 : (bstr (whyW a.y)).size ≤ 7 := by rw [bstr_size]; exact (whyW_len _).2
  have hs4 : (bstr (ansW a.n)).size ≤ 5 := by rw [bstr_size]; exact (ansW_len _).2
  obtain ⟨yy, hyy⟩ : ∃ y : Nat, a.y = y := ⟨a.y.toNat, by have := h.y0; omega⟩
  obtain ⟨nn, hnn⟩ : ∃ n : Nat, a.n = n := ⟨a.n.toNat, by have := h.n0; omega⟩
  have hy1 : 1 ≤ yy ∧ yy ≤ 3 := by have := h.y0; have := h.y1; omega
  have hn1 : 1 ≤ nn ∧ nn ≤ 3 := by have := h.n0; have := h.n1; omega
  have HW : Hid (∀ W, EnvL W → W.cell? ⟨0, yy, none⟩ = some (.string (bstr (whyW a.y))) ∧ W.cell? ⟨1, nn, none⟩ = some (.string (bstr (ansW a.n)))) := fun W hW => by
    rw [hyy, hnn]; exact ⟨hW.whys.why hy1.1 hy1.2, hW.answers.ans hn1.1 hn1.2⟩
  have HF : Hid (∀ W, Env W → Calls Tryz.prog 85 #[.int .i64 a.t, .int .i64 10] W fun e w' => e = .returned (.string (bstr (Lib.decDigits a.t.toNat))) ∧ Below W.heap.size W w') := fun W hW => fmtI a.t h.t0 h.t1 W hW
  have HO : Hid (∀ W, Env W → Calls Tryz.prog 84 #[.agg #[.int .i64 a.k, .int .i64 a.i, .int .u32 a.g]] W fun e w' => e = .returned (.tuple #[.string (bstr (txt 58 a.k.toNat a.i.toNat a.g.toNat)), .int .i64 0]) ∧ Below W.heap.size W w') := fun W hW => otextI a h W hW
  have HYY := Lib.hid hyy
  have HNN := Lib.hid hnn
  clear he h hx hbox hyy hnn
  generalize bstr (Lib.decDigits a.t.toNat) = SD at *
  generalize bstr (txt 58 a.k.toNat a.i.toNat a.g.toNat) = SO at *
  generalize bstr (whyW a.y) = SY at *
  generalize bstr (ansW a.n) = SN at *
  unfold Att.val
  go_enter Tryz.func61, Tryz.ntmps61
  go_wp2_with fail
  refine (chk_att a HR.out _ (HE.out.below HB0.out)).mono ?_
  rintro e w1 ⟨hee, hb1⟩
  rw [chkE_ok HK.out] at hee
  subst hee
  have HB1 := Lib.hid (bel2 HB0.out hb1)
  have HBX1 := Lib.hid (HBX.out.below hb1)
  obtain ⟨d0, d1, d2, d3, d4, d5⟩ := six_new HBX1.out
  simp only [Nat.zero_add] at d0 d1 d2 d3 d4 d5
  clear hb1
  go_wp2_with (go_at_call 84; refine (HO.out _ (HE.out.env.below HB1.out)).mono ?_; rintro e w2 ⟨rfl, hb2⟩)
  have HB2 := Lib.hid (bel2 HB1.out hb2)
  have hE2 := HE.out.below HB2.out
  obtain ⟨q1, q2⟩ := HW.out _ hE2
  have e0 := cell_stays hb2 d0
  have e4 := cell_stays hb2 d4
  have e5 := cell_stays hb2 d5
  rw [HYY.out] at e4
  rw [HNN.out] at e5
  clear d0 d1 d2 d3 d4 d5 hb2
  have hz0 := And.intro e0 (And.intro e4 (And.intro e5 (And.intro q1 q2)))
  have c1 : (0 : Int) ≤ (yy : Int) := by omega
  have c2 : (yy : Int) < 4 := by omega
  have c3 : (0 : Int) ≤ (nn : Int) := by omega
  have c4 : (nn : Int) < 4 := by omega
  have f1 : ¬ 9223372036854775807 < SD.size + 1 := by omega
  have f2 : ¬ 9223372036854775807 < SD.size + 1 + SO.size := by omega
  have f3 : ¬ 9223372036854775807 < SD.size + 1 + SO.size + 1 := by omega
  have f4 : ¬ 9223372036854775807 < SD.size + 1 + SO.size + 1 + SY.size := by omega
  have f5 : ¬ 9223372036854775807 < SD.size + 1 + SO.size + 1 + SY.size + 1 := by omega
  have f6 : ¬ 9223372036854775807 < SD.size + 1 + SO.size + 1 + SY.size + 1 + SN.size := by omega
  have HEE := Lib.hid hE2
  clear e0 e4 e5 q1 q2 hE2
  go_region_held3 (fun W => W.cell? ⟨w.heap.size, 0, none⟩ = some (.int .i64 a.t) ∧ W.cell? ⟨w.heap.size, 4, none⟩ = some (.int .i64 yy) ∧ W.cell? ⟨w.heap.size, 5, none⟩ = some (.int .i64 nn) ∧ W.cell? ⟨0, yy, none⟩ = some (.string SY) ∧ W.cell? ⟨1, nn, none⟩ = some (.string SN)) (first | exact hz0 | exact hz1)
    (first | (go_at_call 85; refine (HF.out _ (HEE.out.env.below (bel_drew (Below.refl _ _)))).mono ?_; rintro e w3 ⟨rfl, hb3⟩; have hz1 := And.intro (cell_stays hb3 hz0.1) (And.intro (cell_stays hb3 hz0.2.1) (And.intro (cell_stays hb3 hz0.2.2.1) (And.intro (cell_stays hb3 hz0.2.2.2.1) (cell_stays hb3 hz0.2.2.2.2))))))
  all_goals
    clear hz0 hz1
    go_wp2
    go_ret2
    exact ⟨rfl, bel2 HB2.out (bel2 (bel_drew (Below.refl _ _)) hb3)⟩
end Go.Proofs.YtenggngcigkakaaGreatDoor
