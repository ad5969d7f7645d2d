/- What Split gives for a text of four words; the contract of the program's read. -/
import Derived.Test.YtenggngcigkakaaGreatDoorHt
import Derived.Deep.RegionHeld3
import Derived.Lib.SplitLaws
namespace Go.Proofs.YtenggngcigkakaaGreatDoor
open Go.RowKit
open Go.Lib (splitB countB indexB)

/-! ### Split -/
theorem size_extract (s : ByteArray) (a b : Nat) : (s.extract a b).size ≤ s.size := by
  rw [Lib.extract_eq, size_list s]
  show (List.toArray _).size ≤ _
  rw [List.size_toArray, List.length_take, List.length_drop]
  omega
theorem split_sizes (sep : ByteArray) : ∀ (k : Nat) (s : ByteArray), ∀ x ∈ splitB sep 0 k s, x.size ≤ s.size
  | 0, s, x, h => by rw [Lib.splitB_zero, List.mem_singleton] at h; rw [h]; exact Nat.le_refl _
  | k + 1, s, x, h => by
    unfold splitB at h
    split at h
    · rw [List.mem_singleton] at h; rw [h]; exact Nat.le_refl _
    · rcases List.mem_cons.1 h with rfl | h
      · exact size_extract _ _ _
      · exact Nat.le_trans (split_sizes sep k _ x h) (size_extract _ _ _)
theorem index_at (m : UInt8) (p r : List UInt8) (hp : ∀ x ∈ p, x ≠ m) : indexB (bstr (p ++ m :: r)) (bstr [m]) = (p.length : Int) := index_mark p r hp
theorem ext_tail (m : UInt8) (p r : List UInt8) : (bstr (p ++ m :: r)).extract (p.length + (bstr [m]).size) (bstr (p ++ m :: r)).size = bstr r := by
  rw [Lib.extract_eq, bstr_data]
  have e1 : (bstr [m]).size = 1 := rfl
  have e2 : (p ++ m :: r).drop (p.length + 1) = r := by rw [← List.drop_drop, List.drop_left]; rfl
  rw [e1, e2, List.take_of_length_le (by rw [bstr_size, List.length_append, List.length_cons]; omega)]
  rfl
theorem ext_head (m : UInt8) (p r : List UInt8) : (bstr (p ++ m :: r)).extract 0 (p.length + 0) = bstr p := by
  rw [Lib.extract_eq, bstr_data]
  simp [bstr]
theorem count_hit (m : UInt8) (p r : List UInt8) (hp : ∀ x ∈ p, x ≠ m) : countB (bstr (p ++ m :: r)) (bstr [m]) = 1 + countB (bstr r) (bstr [m]) := by
  have h1 : 1 ≤ (bstr [m]).size := Nat.le_refl 1
  rw [Lib.countB_hit _ _ p.length h1 (index_at m p r hp), ext_tail]
theorem split_hit (m : UInt8) (p r : List UInt8) (hp : ∀ x ∈ p, x ≠ m) (k : Nat) : splitB (bstr [m]) 0 (k + 1) (bstr (p ++ m :: r)) = bstr p :: splitB (bstr [m]) 0 k (bstr r) := by
  rw [Lib.splitB_hit _ _ k _ p.length (index_at m p r hp), ext_tail, ext_head]
theorem index_none {m : UInt8} : ∀ (p : List UInt8), (∀ x ∈ p, x ≠ m) → Lib.index p [m] = -1
  | [], _ => by rfl
  | x :: p, h => by
    have h0 : x ≠ m := h x (by simp)
    have e : (m == x) = false := beq_eq_false_iff_ne.2 (fun e => h0 e.symm)
    simp only [Lib.index, List.isPrefixOf, e, Bool.false_and]
    rw [index_none p (fun y hy => h y (by simp [hy]))]
    rfl
theorem count_miss (m : UInt8) (p : List UInt8) (hp : ∀ x ∈ p, x ≠ m) : countB (bstr p) (bstr [m]) = 0 := Lib.countB_miss _ _ (index_none p hp)
/-- The four words of an attempt's text. -/
theorem line_words (a : Att) : countB (bstr (aText a)) (bstr [32]) = 3 ∧ splitB (bstr [32]) 0 3 (bstr (aText a)) = [bstr (Lib.decDigits a.t.toNat), bstr (txt 58 a.k.toNat a.i.toNat a.g.toNat), bstr (whyW a.y), bstr (ansW a.n)] := by
  have h1 := dig_ne (m := 32) (by decide) a.t.toNat
  have h2 := txt_ne (m := 32) (by decide) (k := a.k.toNat) (p := a.i.toNat) (g := a.g.toNat)
  have h3 := why_ne (m := 32) (by decide) a.y
  have h4 := ans_ne (m := 32) (by decide) a.n
  unfold aText
  constructor
  · rw [count_hit _ _ _ h1, count_hit _ _ _ h2, count_hit _ _ _ h3, count_miss _ _ h4]
  · rw [split_hit _ _ _ h1, split_hit _ _ _ h2, split_hit _ _ _ h3, Lib.splitB_zero]

/-! ### ParseInt -/
theorem parseM_digits2 (M : Nat) (u : Nat) : u ≤ M → u ≤ 1099511627776 → Lib.parseUintM M 0 (Lib.decDigits u) = .ok u := by
  induction u using Nat.strongRecOn with
  | _ u ih =>
    intro hu hv
    by_cases h : u < 10
    · rw [Lib.decDigits, dif_pos h]
      have e := toNat_digit u h
      simp only [Lib.parseUintM, e]
      rw [if_pos (by omega), if_neg (by omega), if_neg (by omega)]
      congr 1
      omega
    · rw [Lib.decDigits, dif_neg h, parseM_snoc M _ 0 (u / 10) _ (ih (u / 10) (by omega) (by omega) (by omega))]
      have e := toNat_digit (u % 10) (by omega)
      simp only [Lib.parseUintM, e]
      rw [if_pos (by omega), if_neg (by omega), if_neg (by omega)]
      congr 1
      omega
theorem parseI_digits2 (p : Nat) (hp : p ≤ 1099511627776) : Lib.parseIntB 64 (Lib.decDigits p) = .ok (p : Int) := by
  have hb : Lib.parseUintB 64 (Lib.decDigits p) = .ok p := by
    unfold Lib.parseUintB
    rw [if_neg (decDigits_ne_nil p)]
    exact parseM_digits2 _ p (by omega) hp
  have hd := digits_mem p
  cases hl : Lib.decDigits p with
  | nil => exact absurd hl (decDigits_ne_nil p)
  | cons c r =>
    rw [hl] at hb hd
    have hc := hd c (by simp)
    rw [Lib.parseIntB_plain 64 c r (by omega) (by omega), hb]
    show (if 2 ^ (64 - 1) ≤ p then Lib.NumEnd.range else Lib.NumEnd.ok (p : Int)) = Lib.NumEnd.ok (p : Int)
    rw [if_neg (by have : (2 : Nat) ^ (64 - 1) = 9223372036854775808 := by decide
                   omega)]
theorem pint2 (s : ByteArray) (hs : s.size ≤ 281474976710656) (w : World) (hse : Sent w) :
    Calls Tryz.prog 91 #[.string s, .int .i64 10, .int .i64 64] w fun e w' => ∃ (v : Int) (x : Value), (-9223372036854775808 ≤ v ∧ v ≤ 9223372036854775807) ∧ (∀ p : Nat, p ≤ 1099511627776 → s.data.toList = Lib.decDigits p → v = p) ∧ e = .returned (.tuple #[.int .i64 v, x]) ∧ Below w.heap.size w w' := by
  obtain ⟨⟨t1, p1, hv1⟩, ⟨t2, p2, hv2⟩⟩ := hse
  cases hp : Lib.parseIntB 64 s.data.toList with
  | ok v =>
    refine (Tryz.strconv_ParseInt_10_at64_ok s (by omega) v hp w).mono ?_
    rintro e w' ⟨rfl, h⟩
    have hb := Lib.parseIntB_bounds hp
    have e63 : ((2 ^ (64 - 1) : Nat) : Int) = 9223372036854775808 := by decide
    rw [e63] at hb
    refine ⟨v, _, by omega, fun p hp1 hp2 => ?_, rfl, ?_⟩
    · rw [hp2, parseI_digits2 p hp1] at hp
      injection hp with hp
      exact hp.symm
    · rcases h with rfl | ⟨t, rfl⟩
      · exact Below.refl _ _
      · exact Lib.bytesWorld_below _ _ _
  | _ =>
    first
    | exact (Any.strconv_ParseInt_10_at64_syntax_var Tryz.laysC174 s hs hp t1 p1 w hv1).mono fun e w' ⟨N, he, _, _, hb⟩ => ⟨0, _, by omega, fun p hp1 hp2 => (by rw [hp2, parseI_digits2 p hp1] at hp; cases hp), he, hb⟩
    | exact (Any.strconv_ParseInt_10_at64_range_var Tryz.laysC174 s hs hp t2 p2 w hv2).mono fun e w' ⟨N, he, _, _, hb⟩ => ⟨_, _, (by unfold Lib.intSat; split <;> decide), fun p hp1 hp2 => (by rw [hp2, parseI_digits2 p hp1] at hp; cases hp), he, hb⟩
/-- A resource, read: its numbers fit; it is the one whose text was read, if there is one. -/
theorem oparse_any (s : ByteArray) (hs : s.size ≤ 100000) (w : World) (he : Env w) :
    Calls Tryz.prog 92 #[.string s] w fun e w' => ∃ (k i g E : Int), RgO k i g ∧ (∀ K P G, Okn 64 K P G → s.data.toList = txt 58 K P G → k = K ∧ i = P ∧ g = G) ∧ e = .returned (.tuple #[.agg #[.int .i64 k, .int .i64 i, .int .u32 g], .int .i64 E]) ∧ Below w.heap.size w w' := by
  rcases name_or 58 64 s.data.toList with ⟨K, P, G, h, e⟩ | hn
  · rw [str_eq e]
    refine (oparse_yes K P G h w he).mono ?_
    rintro e2 w' ⟨rfl, hb⟩
    obtain ⟨h1, h2, h3, h4, h5⟩ := h
    exact ⟨K, P, G, 0, ⟨by omega, by omega, by omega, by omega, by omega, by omega⟩, fun K' P' G' h' e' => by
      have := txt_inj (.inr rfl) ⟨h1, h2, h3, h4, h5⟩ h' (show txt 58 K P G = txt 58 K' P' G' from by simpa using e')
      omega, rfl, hb⟩
  · refine (oparse_no s hs hn w he).mono ?_
    rintro e2 w' ⟨rfl, hb⟩
    exact ⟨0, 0, 0, 9, ⟨by omega, by omega, by omega, by omega, by omega, by omega⟩, fun K P G h e => absurd e (hn K P G h), rfl, hb⟩

/-! ### an attempt that is stored -/
def put6 (W : World) (x : Nat) (a : Att) : World :=
  (((((W.setCell ⟨x, 0, none⟩ (.int .i64 a.t)).setCell ⟨x, 1, none⟩ (.int .i64 a.k)).setCell ⟨x, 2, none⟩ (.int .i64 a.i)).setCell ⟨x, 3, none⟩ (.int .u32 a.g)).setCell ⟨x, 4, none⟩ (.int .i64 a.y)).setCell ⟨x, 5, none⟩ (.int .i64 a.n)
theorem put6_bk {W : World} {x : Nat} {a b : Att} (h : Bk W x 32 b.cl.toArray) : Bk (put6 W x a) x 32 a.cl.toArray := by
  unfold put6
  have hx := (((((h.put 0 (.int .i64 a.t)).put 1 (.int .i64 a.k)).put 2 (.int .i64 a.i)).put 3 (.int .u32 a.g)).put 4 (.int .i64 a.y)).put 5 (.int .i64 a.n)
  simp only [Att.cl, List.setIfInBounds_toArray, List.set_cons_zero, List.set_cons_succ] at hx
  exact hx
theorem put6_below {B : Nat} {w W : World} {x : Nat} {a : Att} (h : Below B w W) (hx : B ≤ x) : Below B w (put6 W x a) :=
  (((((h.setCell (p := ⟨x, 0, none⟩) hx _).setCell (p := ⟨x, 1, none⟩) hx _).setCell (p := ⟨x, 2, none⟩) hx _).setCell (p := ⟨x, 3, none⟩) hx _).setCell (p := ⟨x, 4, none⟩) hx _).setCell (p := ⟨x, 5, none⟩) hx _

theorem put6_far (W : World) (x : Nat) (a : Att) (q : Addr) (h : q.block ≠ x) : (put6 W x a).cell? q = W.cell? q := by
  unfold put6
  rw [World.cell?_setCell_far _ _ _ _ (fun e => h e.symm), World.cell?_setCell_far _ _ _ _ (fun e => h e.symm), World.cell?_setCell_far _ _ _ _ (fun e => h e.symm), World.cell?_setCell_far _ _ _ _ (fun e => h e.symm), World.cell?_setCell_far _ _ _ _ (fun e => h e.symm), World.cell?_setCell_far _ _ _ _ (fun e => h e.symm)]

/-! ### read -/
/-- Some attempt in numbers, and the one whose text was read, if there is one. -/
def ReadV2 (s : List UInt8) (w : World) (e : Ending) (w' : World) : Prop := ∃ a : Att, a.Rg ∧ e = .returned a.val ∧ (∀ b : Att, b.Ok → s = aText b → a = b) ∧ Below w.heap.size w w'
theorem wnum_rg (a b c s : List UInt8) : 0 ≤ wnum a b c s ∧ wnum a b c s ≤ 3 := by unfold wnum; split; omega; split; omega; split <;> omega
theorem wwhy_W {y : Int} (h0 : 1 ≤ y) (h1 : y ≤ 3) : wwhy (whyW y) = y := by
  have : y = 1 ∨ y = 2 ∨ y = 3 := by omega
  rcases this with rfl | rfl | rfl <;> decide
theorem wans_W {y : Int} (h0 : 1 ≤ y) (h1 : y ≤ 3) : wans (ansW y) = y := by
  have : y = 1 ∨ y = 2 ∨ y = 3 := by omega
  rcases this with rfl | rfl | rfl <;> decide
set_option maxRecDepth 100000 in
set_option maxHeartbeats 2000000 in
theorem read_few (s : ByteArray) (hs : s.size ≤ 100000) (hc : countB s (bstr [32]) ≠ 3) (w : World) (he : EnvL w) : Calls Tryz.prog 67 #[.string s] w (ReadV2 s.data.toList w) := by
  have HE := Lib.hid he
  have HB0 := Lib.hid (bel_new w (.cells #[.int .i64 0, .int .i64 0, .int .i64 0, .int .u32 0, .int .i64 0, .int .i64 0] 32))
  have hb0 : Bk (w.alloc (.cells #[.int .i64 0, .int .i64 0, .int .i64 0, .int .u32 0, .int .i64 0, .int .i64 0] 32)) w.heap.size 32 att0.cl.toArray := Bk.new w _ _
  have HBX := Lib.hid hb0
  obtain ⟨M, hM⟩ := (he.below HB0.out).env.ml
  have HM := Lib.hid hM
  have HNO : Hid (∀ b : Att, s.data.toList = aText b → False) := fun b e => by
    have hs2 : s = bstr (aText b) := by rw [← e, bstr_of]
    have := (line_words b).1
    rw [← hs2] at this
    exact hc this
  have hcn : ((countB s (bstr [32]) + 1 : Nat) : Int) ≠ 4 := by omega
  clear he hb0 hM hc
  go_enter Tryz.func67, Tryz.ntmps67
  go_wp2_with fail
  refine (Tryz.strings_Split s (bstr [32]) M _ (by omega) HM.out (by decide)).mono ?_
  rintro e w1 ⟨rfl, rfl⟩
  generalize countB s (bstr [32]) = C at *
  generalize splitB (bstr [32]) 0 C s = L at *
  have hne : (((C : Int) + 1) == 4) = false := beq_eq_false_iff_ne.2 (by omega)
  have hup := HBX.out.up (.cells (L.map Value.string).toArray 9)
  have hbb := bel2 HB0.out (bel_new _ (.cells (L.map Value.string).toArray 9))
  generalize ((w.alloc (.cells #[.int .i64 0, .int .i64 0, .int .i64 0, .int .u32 0, .int .i64 0, .int .i64 0] 32)).alloc (.cells (L.map Value.string).toArray 9)) = W2 at *
  obtain ⟨c0, c1, c2, c3, c4, c5⟩ := six_new hup
  have y0 := hup.frozen 0
  have y1 := hup.frozen 1
  have y2 := hup.frozen 2
  have y3 := hup.frozen 3
  have y4 := hup.frozen 4
  have y5 := hup.frozen 5
  simp only [att0, Nat.zero_add] at c0 c1 c2 c3 c4 c5
  have HBB := Lib.hid hbb
  have HUP := Lib.hid hup
  clear hup hbb hcn
  go_wp2
  change bodyPost _ _ _ _ _ (put6 W2 w.heap.size att0)
  have hz := put6_bk (a := att0) HUP.out
  have hzb := put6_below (a := att0) HBB.out (Nat.le_refl _)
  generalize put6 W2 w.heap.size att0 = Z at *
  obtain ⟨d0, d1, d2, d3, d4, d5⟩ := six_new hz
  simp only [att0, Nat.zero_add] at d0 d1 d2 d3 d4 d5
  clear c0 c1 c2 c3 c4 c5 y0 y1 y2 y3 y4 y5 hz
  refine bodyPost_ret (v := .agg #[.int .i64 0, .int .i64 0, .int .i64 0, .int .u32 0, .int .i64 0, .int .i64 0]) ?_ rfl ⟨att0, ⟨by decide, by decide, by decide, by decide, by decide, by decide, by decide, by decide, by decide, by decide, by decide, by decide⟩, rfl, fun b hb e => ?_, hzb⟩
  · simp [results, Tryz.results67, go_sem, d0, d1, d2, d3, d4, d5]
  · exact (HNO.out b e).elim
set_option maxRecDepth 100000 in
set_option maxHeartbeats 4000000 in
theorem read_four (s : ByteArray) (hs : s.size ≤ 100000) (hc : countB s (bstr [32]) = 3) (w : World) (he : EnvL w) : Calls Tryz.prog 67 #[.string s] w (ReadV2 s.data.toList w) := by
  have m1 : (0 : Nat) < w.heap.size := World.block_lt_of_cell? _ _ he.whys.c0
  have m2 : (1 : Nat) < w.heap.size := World.block_lt_of_cell? _ _ he.answers.c0
  have HE := Lib.hid he
  obtain ⟨p0, p1, p2, p3, hL⟩ : ∃ p0 p1 p2 p3, splitB (bstr [32]) 0 3 s = [p0, p1, p2, p3] := by
    have := Lib.splitB_all (bstr [32]) (Nat.le_refl 1) 0 3 s hc
    match h : splitB (bstr [32]) 0 3 s, this with
    | [a, b, c, d], _ => exact ⟨a, b, c, d, rfl⟩
  have hsz := split_sizes (bstr [32]) 3 s
  rw [hL] at hsz
  have q0 := hsz p0 (by simp)
  have q1 := hsz p1 (by simp)
  have q2 := hsz p2 (by simp)
  have q3 := hsz p3 (by simp)
  have HIF : Hid (∀ b : Att, b.Ok → s.data.toList = aText b → p0.data.toList = Lib.decDigits b.t.toNat ∧ p1.data.toList = txt 58 b.k.toNat b.i.toNat b.g.toNat ∧ p2.data.toList = whyW b.y ∧ p3.data.toList = ansW b.n) := fun b _ e => by
    have hs2 : s = bstr (aText b) := by rw [← e, bstr_of]
    have := (line_words b).2
    rw [← hs2, hL] at this
    simp only [List.cons.injEq, and_true] at this
    obtain ⟨e0, e1, e2, e3⟩ := this
    rw [e0, e1, e2, e3]
    exact ⟨rfl, rfl, rfl, rfl⟩
  have hHC := Lib.hid hc
  have HB0 := Lib.hid (bel_new w (.cells #[.int .i64 0, .int .i64 0, .int .i64 0, .int .u32 0, .int .i64 0, .int .i64 0] 32))
  have hb0 : Bk (w.alloc (.cells #[.int .i64 0, .int .i64 0, .int .i64 0, .int .u32 0, .int .i64 0, .int .i64 0] 32)) w.heap.size 32 att0.cl.toArray := Bk.new w _ _
  have HBX := Lib.hid hb0
  obtain ⟨M, hM⟩ := (he.below HB0.out).env.ml
  have HM := Lib.hid hM
  have HLL := Lib.hid hL
  clear he hb0 hM hc hL hsz
  go_enter Tryz.func67, Tryz.ntmps67
  go_wp2_with fail
  refine (Tryz.strings_Split s (bstr [32]) M _ (by omega) HM.out (by decide)).mono ?_
  rintro e w1 ⟨rfl, rfl⟩
  rw [hHC.out, HLL.out]
  have hup := HBX.out.up (.cells ([p0, p1, p2, p3].map Value.string).toArray 9)
  have hbb := bel2 HB0.out (bel_new _ (.cells ([p0, p1, p2, p3].map Value.string).toArray 9))
  have hlp := Bk.new (w.alloc (.cells #[.int .i64 0, .int .i64 0, .int .i64 0, .int .u32 0, .int .i64 0, .int .i64 0] 32)) 9 ([p0, p1, p2, p3].map Value.string).toArray
  rw [size_up] at hlp
  generalize ((w.alloc (.cells #[.int .i64 0, .int .i64 0, .int .i64 0, .int .u32 0, .int .i64 0, .int .i64 0] 32)).alloc (.cells ([p0, p1, p2, p3].map Value.string).toArray 9)) = W2 at *
  have HUP := Lib.hid hup
  have HLP := Lib.hid hlp
  have HBB := Lib.hid hbb
  have l0 : W2.cell? ⟨w.heap.size + 1, 0, none⟩ = some (.string p0) := hlp.cell 0
  clear hup hlp hbb
  go_wp2_with fail
  refine (pint2 p0 (by omega) _ (HE.out.below HBB.out).env.sent).mono ?_
  rintro e w3 ⟨v, x, hv, hvp, rfl, hb3⟩
  have HV := Lib.hid (And.intro hv hvp)
  have HB3 := Lib.hid (bel2 HBB.out hb3)
  have HLP3 := Lib.hid (HLP.out.below hb3)
  have m3 := HLP3.out.lt
  have HUP3 := Lib.hid (HUP.out.below hb3)
  have l1 : w3.cell? ⟨w.heap.size + 1, 1, none⟩ = some (.string p1) := HLP3.out.cell 1
  clear hv hvp hb3 l0
  go_wp2_with fail
  refine (oparse_any p1 (by omega) _ (HE.out.below HB3.out).env).mono ?_
  rintro e w4 ⟨k, i, g, E, hko, hkp, rfl, hb4⟩
  have HKK := Lib.hid (And.intro hko hkp)
  have m34 := hb4.size
  have HB4 := Lib.hid (bel2 HB3.out hb4)
  have HBo := bel_new w4 (.cells #[.int .i64 k, .int .i64 i, .int .u32 g] 25)
  have HLP4 := Lib.hid ((HLP3.out.below hb4).below HBo)
  have HUP4 := Lib.hid ((HUP3.out.below hb4).below HBo)
  have HBO := Lib.hid (Bk.new w4 25 #[.int .i64 k, .int .i64 i, .int .u32 g])
  have HB5 := Lib.hid (bel2 HB4.out HBo)
  clear hko hkp hb4 l1 HBo
  go_wp2
  generalize hW5 : w4.alloc (.cells #[.int .i64 k, .int .i64 i, .int .u32 g] 25) = W5 at *
  clear hW5
  have HE5 := Lib.hid (HE.out.below HB5.out)
  have HRZ : Hid (∀ W, Below W5.heap.size W5 W → (W.cell? ⟨w.heap.size, 0, none⟩ = some (.int .i64 0) ∧ W.cell? ⟨w.heap.size, 1, none⟩ = some (.int .i64 0) ∧ W.cell? ⟨w.heap.size, 2, none⟩ = some (.int .i64 0) ∧ W.cell? ⟨w.heap.size, 3, none⟩ = some (.int .u32 0) ∧ W.cell? ⟨w.heap.size, 4, none⟩ = some (.int .i64 0) ∧ W.cell? ⟨w.heap.size, 5, none⟩ = some (.int .i64 0) ∧ W.frozen? ⟨w.heap.size, 0, none⟩ = false ∧ W.frozen? ⟨w.heap.size, 1, none⟩ = false ∧ W.frozen? ⟨w.heap.size, 2, none⟩ = false ∧ W.frozen? ⟨w.heap.size, 3, none⟩ = false ∧ W.frozen? ⟨w.heap.size, 4, none⟩ = false ∧ W.frozen? ⟨w.heap.size, 5, none⟩ = false)) := fun W hW => by
    have b1 := HUP4.out.below hW
    exact ⟨b1.cell 0, b1.cell 1, b1.cell 2, b1.cell 3, b1.cell 4, b1.cell 5, b1.frozen 0, b1.frozen 1, b1.frozen 2, b1.frozen 3, b1.frozen 4, b1.frozen 5⟩
  have n1 : (0 : Nat) ≠ w.heap.size := by omega
  have n2 : (1 : Nat) ≠ w.heap.size := by omega
  have n3 : w4.heap.size ≠ w.heap.size := by have := m34; omega
  obtain ⟨Y, hY⟩ : ∃ Y, wwhy p2.data.toList = Y := ⟨_, rfl⟩
  obtain ⟨N, hN⟩ : ∃ N, wans p3.data.toList = N := ⟨_, rfl⟩
  obtain ⟨s0, s1, s2, s3, t0, t1, t2, t3, HS, HNW, HNA⟩ : ∃ s0 s1 s2 s3 t0 t1 t2 t3 : ByteArray, Hid (∀ W, Below W5.heap.size W5 W → (W.cell? ⟨w4.heap.size, 0, none⟩ = some (.int .i64 k) ∧ W.cell? ⟨w4.heap.size, 1, none⟩ = some (.int .i64 i) ∧ W.cell? ⟨w4.heap.size, 2, none⟩ = some (.int .u32 g) ∧ W.cell? ⟨w.heap.size + 1, 2, none⟩ = some (.string p2) ∧ W.cell? ⟨w.heap.size + 1, 3, none⟩ = some (.string p3) ∧ W.cell? ⟨0, 0, none⟩ = some (.string s0) ∧ W.cell? ⟨0, 1, none⟩ = some (.string s1) ∧ W.cell? ⟨0, 2, none⟩ = some (.string s2) ∧ W.cell? ⟨0, 3, none⟩ = some (.string s3) ∧ W.cell? ⟨1, 0, none⟩ = some (.string t0) ∧ W.cell? ⟨1, 1, none⟩ = some (.string t1) ∧ W.cell? ⟨1, 2, none⟩ = some (.string t2) ∧ W.cell? ⟨1, 3, none⟩ = some (.string t3))) ∧ Hid (∀ W, Calls Tryz.prog 93 #[.agg #[.string s0, .string s1, .string s2, .string s3], .string p2] W fun e w' => e = .returned (.int .i64 Y) ∧ Below W.heap.size W w') ∧ Hid (∀ W, Calls Tryz.prog 93 #[.agg #[.string t0, .string t1, .string t2, .string t3], .string p3] W fun e w' => e = .returned (.int .i64 N) ∧ Below W.heap.size W w') := by
    refine ⟨_, _, _, _, _, _, _, _, fun W hW => ?_, fun W => by rw [← hY]; exact number_why p2 W, fun W => by rw [← hN]; exact number_ans p3 W⟩
    have b1 := HBO.out.below hW
    have b2 := HLP4.out.below hW
    have b3 := HE5.out.below hW
    exact ⟨b1.cell 0, b1.cell 1, b1.cell 2, b2.cell 2, b2.cell 3, b3.whys.c0, b3.whys.c1, b3.whys.c2, b3.whys.c3, b3.answers.c0, b3.answers.c1, b3.answers.c2, b3.answers.c3⟩
  have HYN := Lib.hid (And.intro hY hN)
  clear hY hN
  have HSZ : Hid (∀ W a, Below W5.heap.size W5 W → ((put6 W w.heap.size a).cell? ⟨w4.heap.size, 0, none⟩ = some (.int .i64 k) ∧ (put6 W w.heap.size a).cell? ⟨w4.heap.size, 1, none⟩ = some (.int .i64 i) ∧ (put6 W w.heap.size a).cell? ⟨w4.heap.size, 2, none⟩ = some (.int .u32 g) ∧ (put6 W w.heap.size a).cell? ⟨w.heap.size + 1, 2, none⟩ = some (.string p2) ∧ (put6 W w.heap.size a).cell? ⟨w.heap.size + 1, 3, none⟩ = some (.string p3) ∧ (put6 W w.heap.size a).cell? ⟨0, 0, none⟩ = some (.string s0) ∧ (put6 W w.heap.size a).cell? ⟨0, 1, none⟩ = some (.string s1) ∧ (put6 W w.heap.size a).cell? ⟨0, 2, none⟩ = some (.string s2) ∧ (put6 W w.heap.size a).cell? ⟨0, 3, none⟩ = some (.string s3) ∧ (put6 W w.heap.size a).cell? ⟨1, 0, none⟩ = some (.string t0) ∧ (put6 W w.heap.size a).cell? ⟨1, 1, none⟩ = some (.string t1) ∧ (put6 W w.heap.size a).cell? ⟨1, 2, none⟩ = some (.string t2) ∧ (put6 W w.heap.size a).cell? ⟨1, 3, none⟩ = some (.string t3))) := fun W a hW => by
    obtain ⟨c0, c1, c2, c3, c4, c5, c6, c7, c8, c9, c10, c11, c12⟩ := HS.out W hW
    refine ⟨?_, ?_, ?_, ?_, ?_, ?_, ?_, ?_, ?_, ?_, ?_, ?_, ?_⟩ <;> (rw [put6_far _ _ _ _ (by first | exact n1 | exact n2 | exact n3 | (show w.heap.size + 1 ≠ w.heap.size; omega))]; assumption)
  clear n1 n2 n3 m1 m2 m3 m34
  have hz0 := HS.out W5 (Below.refl _ _)
  have HD0 := Lib.hid (bel_drew (Below.refl _ _) : Below W5.heap.size W5 W5.drew)
  go_region_held3 (fun W => W.cell? ⟨w4.heap.size, 0, none⟩ = some (.int .i64 k) ∧ W.cell? ⟨w4.heap.size, 1, none⟩ = some (.int .i64 i) ∧ W.cell? ⟨w4.heap.size, 2, none⟩ = some (.int .u32 g) ∧ W.cell? ⟨w.heap.size + 1, 2, none⟩ = some (.string p2) ∧ W.cell? ⟨w.heap.size + 1, 3, none⟩ = some (.string p3) ∧ W.cell? ⟨0, 0, none⟩ = some (.string s0) ∧ W.cell? ⟨0, 1, none⟩ = some (.string s1) ∧ W.cell? ⟨0, 2, none⟩ = some (.string s2) ∧ W.cell? ⟨0, 3, none⟩ = some (.string s3) ∧ W.cell? ⟨1, 0, none⟩ = some (.string t0) ∧ W.cell? ⟨1, 1, none⟩ = some (.string t1) ∧ W.cell? ⟨1, 2, none⟩ = some (.string t2) ∧ W.cell? ⟨1, 3, none⟩ = some (.string t3)) (first | (with_reducible exact hz0) | (with_reducible exact hzA) | (with_reducible exact hzB) | (with_reducible exact hzAB) | (with_reducible exact hzBA) | exact hzZ | exact hz0)
    (first
    | (go_at_call 93; (with_reducible refine (HNW.out _).mono ?_); rintro e w7 ⟨rfl, hb7⟩; have hbBA := Lib.hid (bel2 hbB.out hb7); have hzBA := HS.out _ hbBA.out; have hzZ := HSZ.out _ ⟨v, k, i, g, Y, N⟩ hbBA.out; clear hb7; obtain ⟨r0, r1, r2, r3, r4, r5, y0, y1, y2, y3, y4, y5⟩ := HRZ.out _ hbBA.out)
    | (go_at_call 93; (with_reducible refine (HNA.out _).mono ?_); rintro e w7 ⟨rfl, hb7⟩; have hbAB := Lib.hid (bel2 hbA.out hb7); have hzAB := HS.out _ hbAB.out; have hzZ := HSZ.out _ ⟨v, k, i, g, Y, N⟩ hbAB.out; clear hb7; obtain ⟨r0, r1, r2, r3, r4, r5, y0, y1, y2, y3, y4, y5⟩ := HRZ.out _ hbAB.out)
    | (go_at_call 93; (with_reducible refine (HNW.out _).mono ?_); rintro e w6 ⟨rfl, hb6⟩; have hbA := Lib.hid (bel2 HD0.out hb6); have hzA := HS.out _ hbA.out; clear hb6)
    | (go_at_call 93; (with_reducible refine (HNA.out _).mono ?_); rintro e w6 ⟨rfl, hb6⟩; have hbB := Lib.hid (bel2 HD0.out hb6); have hzB := HS.out _ hbB.out; clear hb6))
  all_goals
    have hbZ : Below W5.heap.size W5 w7 := by first | exact hbAB.out | exact hbBA.out
    have hu7 := HUP4.out.below hbZ
    have hb7 := bel2 HB5.out hbZ
    clear hz0
    (try clear hzA)
    (try clear hzB)
    (try clear hzAB)
    (try clear hzBA)
    clear hzZ
    go_wp2
    change bodyPost _ _ _ _ _ (put6 w7 w.heap.size ⟨v, k, i, g, Y, N⟩)
    have hz := put6_bk (a := ⟨v, k, i, g, Y, N⟩) hu7
    have hzb := put6_below (a := ⟨v, k, i, g, Y, N⟩) hb7 (Nat.le_refl _)
    generalize put6 w7 w.heap.size ⟨v, k, i, g, Y, N⟩ = Z at *
    obtain ⟨d0, d1, d2, d3, d4, d5⟩ := six_new hz
    simp only [Nat.zero_add] at d0 d1 d2 d3 d4 d5
    clear r0 r1 r2 r3 r4 r5 y0 y1 y2 y3 y4 y5 hz
    refine bodyPost_ret (v := .agg #[.int .i64 v, .int .i64 k, .int .i64 i, .int .u32 g, .int .i64 Y, .int .i64 N]) ?_ rfl ⟨⟨v, k, i, g, Y, N⟩, ?_, rfl, fun b hb e => ?_, hzb⟩
    · simp [results, Tryz.results67, go_sem, d0, d1, d2, d3, d4, d5]
    · obtain ⟨e1, e2⟩ := HYN.out
      have g1 := HV.out.1
      obtain ⟨⟨f0, f1, f2, f3, f4, f5⟩, -⟩ := HKK.out
      have g3 : 0 ≤ wwhy p2.data.toList ∧ wwhy p2.data.toList ≤ 3 := wnum_rg _ _ _ _
      have g4 : 0 ≤ wans p3.data.toList ∧ wans p3.data.toList ≤ 3 := wnum_rg _ _ _ _
      rw [e1] at g3
      rw [e2] at g4
      constructor <;> (dsimp only; omega)
    · obtain ⟨e1, e2⟩ := HYN.out
      obtain ⟨x0, x1, x2, x3⟩ := HIF.out b hb e
      have z0 := HV.out.2 b.t.toNat (by have := hb.t1; omega) x0
      obtain ⟨z1, z2, z3⟩ := HKK.out.2 _ _ _ hb.okn x1
      rw [x2, wwhy_W hb.y0 hb.y1] at e1
      rw [x3, wans_W hb.n0 hb.n1] at e2
      obtain ⟨bt, bk, bi, bg, by', bn⟩ := b
      obtain ⟨h1, h2, h3, h4, h5, h6, h7, h8, h9, h10, h11, h12⟩ := hb
      dsimp only at *
      congr 1 <;> omega
theorem read_anyL (s : ByteArray) (hs : s.size ≤ 100000) (w : World) (he : EnvL w) : Calls Tryz.prog 67 #[.string s] w (ReadV2 s.data.toList w) := by
  by_cases hc : countB s (bstr [32]) = 3
  · exact read_four s hs hc w he
  · exact read_few s hs hc w he
end Go.Proofs.YtenggngcigkakaaGreatDoor
