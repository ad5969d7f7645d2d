/- The walk of the statement DescrCuts: it returns true for any numbers. -/
import Derived.Test.YtnjmlecbljeofaaDoorLDBak
import Derived.BigRegion
import Derived.IntWalk
namespace Go.Proofs.YtnjmlecbljeofaaDoor
open Go.RowKit

theorem ext_le (s : ByteArray) (a b : Nat) {n : Nat} (h : s.size ≤ n) : (s.extract a b).size ≤ n := by
  rw [Lib.extract_eq]
  show (List.toArray _).size ≤ n
  have := Lib.size_eq s
  rw [List.size_toArray, List.length_take, List.length_drop]
  omega
theorem ne_nil (s : ByteArray) (h : 4 ≤ s.size) : (s.toList == []) = false := by
  rw [beq_eq_false_iff_ne]
  intro e
  rw [ByteArray.toList_eq] at e
  have := Lib.size_eq s
  rw [e] at this
  simp only [List.length_nil] at this
  omega
theorem conv_byte (W : World) (q : Nat) (b : UInt8) (hW : W.cell? ⟨q, 0, none⟩ = some (.int .u8 b.toNat)) :
    (convert 55 9 (.slice (some ⟨q, 0, none⟩) 1 1)).run Tryd.prog W = .ok (.string ⟨#[b]⟩) W := conv_one 55 W q b Tryd.underlying55 hW

/-- What the loops keep: the two examples' cells and the two texts. -/
structure CutSt (w W : World) (bd bs : Nat) (k p o g : Int) (X0 X1 : ByteArray) : Prop where
  be : Below w.heap.size w W
  en : Env W
  d : D3 W bd k p g
  r : D3 W (bd + 1) k o g
  x0 : W.cell? ⟨bs, 0, none⟩ = some (.string X0)
  x1 : W.cell? ⟨bs, 1, none⟩ = some (.string X1)
theorem CutSt.below {w W W' : World} {bd bs : Nat} {k p o g : Int} {X0 X1 : ByteArray} (h : CutSt w W bd bs k p o g X0 X1) (hb : Below W.heap.size W W') : CutSt w W' bd bs k p o g X0 X1 :=
  ⟨bel2 h.be hb, h.en.below hb, h.d.below hb, h.r.below hb, cell_keeps hb h.x0, cell_keeps hb h.x1⟩

/-- What a text that differs from a descriptor's at most by a byte may be read as. -/
theorem cut_or {m : UInt8} {N k p g : Nat} (hO : Okn N k p g) (X s : ByteArray) (hs : s.data.toList = txt m k p g) :
    (∃ k' p' g' : Nat, Okn N k' p' g' ∧ X.data.toList = txt m k' p' g' ∧ k' ≠ k) ∨ (∃ p' g' : Nat, Okn N k p' g' ∧ X.data.toList = txt m k p' g' ∧ p' ≠ p) ∨ (∃ g' : Nat, Okn N k p g' ∧ X.data.toList = txt m k p g' ∧ g' ≠ g) ∨
    (X.data.toList = txt m k p g ∧ (X.toList == s.toList) = true) ∨ NoName m N X.data.toList := by
  rcases name_or m N X.data.toList with ⟨k', p', g', h1, h2⟩ | h
  · by_cases e1 : k' = k
    · subst e1
      by_cases e2 : p' = p
      · subst e2
        by_cases e3 : g' = g
        · subst e3
          exact .inr (.inr (.inr (.inl ⟨h2, by rw [beq_iff_eq, ByteArray.toList_eq, ByteArray.toList_eq, hs, h2]⟩)))
        · exact .inr (.inr (.inl ⟨g', h1, h2, e3⟩))
      · exact .inr (.inl ⟨p', g', h1, h2, e2⟩)
    · exact .inl ⟨k', p', g', h1, h2, e1⟩
  · exact .inr (.inr (.inr (.inr h)))

set_option maxHeartbeats 4000000 in
set_option maxRecDepth 100000 in
theorem dCut_core (x1 y1 z1 a : Int) (b : UInt8) (k p o g K M : Nat) (s t : ByteArray) (w : World) (hs : s.size ≤ 22) (ht : t.size ≤ 22) (hs0 : 4 ≤ s.size) (ht0 : 4 ≤ t.size)
    (ha : 0 ≤ a ∧ a ≤ 255) (hK : a % (s.size : Int) = K) (hM : a % (t.size : Int) = M) (hK1 : K < s.size) (hM1 : M < t.size)
    (hOd : Okn 256 k p g) (hOo : Okn 64 k o g) (hst : s.data.toList = txt 46 k p g) (htt : t.data.toList = txt 58 k o g)
    (hM0 : Gives 32 #[.int .u8 x1, .int .u8 y1, .int .u32 z1] (.tuple #[.agg #[.int .i64 k, .int .i64 p, .int .u32 g], .agg #[.int .i64 k, .int .i64 o, .int .u32 g]]))
    (hT : GivesE 20 #[.agg #[.int .i64 k, .int .i64 p, .int .u32 g]] (.tuple #[.string s, .int .i64 0]))
    (hU : GivesE 24 #[.agg #[.int .i64 k, .int .i64 o, .int .u32 g]] (.tuple #[.string t, .int .i64 0])) (he : Env w) :
    Calls Tryd.prog 11 #[.int .u8 x1, .int .u8 y1, .int .u32 z1, .int .u8 a, .int .u8 b.toNat] w fun e w' => e = .returned (.bool true) ∧ Below w.heap.size w w' := by
  have HE := Lib.hid he
  have HM0 := Lib.hid hM0
  have HT := Lib.hid hT
  have HU := Lib.hid hU
  have hK2 : a.tmod (s.size : Int) = K := by rw [Int.tmod_eq_emod_of_nonneg ha.1]; exact hK
  have hM2 : a.tmod (t.size : Int) = M := by rw [Int.tmod_eq_emod_of_nonneg ha.1]; exact hM
  have hse2 : (s.toList == []) = false := ne_nil s hs0
  have hte2 : (t.toList == []) = false := ne_nil t ht0
  have hsz : ((s.size : Int) == 0) = false := beq_eq_false_iff_ne.2 (by omega)
  have htz : ((t.size : Int) == 0) = false := beq_eq_false_iff_ne.2 (by omega)
  have HOd := Lib.hid hOd
  have HOo := Lib.hid hOo
  have Hst := Lib.hid hst
  have Htt := Lib.hid htt
  clear he hM0 hT hU hOd hOo hst htt
  go_enter Tryd.func11, Tryd.ntmps11
  go_wp2_with fail
  refine (HM0.out _).mono ?_
  rintro e w1 ⟨rfl, hb1⟩
  have HA := Lib.hid (d3_two (w := w1) (k := k) (p := p) (g := g) (k' := k) (p' := o) (g' := g) (T := 24) (T' := 39))
  have HB1 := Lib.hid (bel2 hb1 (bel2 (bup w1 (.cells #[.int .i64 k, .int .i64 p, .int .u32 g] 24)) (bup _ (.cells #[.int .i64 k, .int .i64 o, .int .u32 g] 39))))
  clear hb1
  go_wp2_with fail
  refine (HT.out _ (HE.out.below HB1.out)).mono ?_
  rintro e w2 ⟨rfl, hb2⟩
  have HA2 := Lib.hid (And.intro (HA.out.1.below hb2) (HA.out.2.below hb2))
  have HB2 := Lib.hid (bel2 HB1.out hb2)
  clear hb2
  obtain ⟨d0, d1, d2⟩ := HA2.out.2
  go_wp2_with fail
  refine (HU.out _ (HE.out.below HB2.out)).mono ?_
  rintro e w3 ⟨rfl, hb3⟩
  have HA3 := Lib.hid (And.intro (HA2.out.1.below hb3) (HA2.out.2.below hb3))
  have HB3 := Lib.hid (bel2 HB2.out hb3)
  clear hb3 d0 d1 d2
  have hcv := fun (W : World) (q : Nat) (hW : W.cell? ⟨q, 0, none⟩ = some (.int .u8 b.toNat)) => conv_byte W q b hW
  have f1 : ¬ 9223372036854775807 < min K s.size + (s.size - (K + 1)) := by omega
  have f2 : ¬ 9223372036854775807 < min K s.size + 1 := by omega
  have f3 : ¬ 9223372036854775807 < min K s.size + 1 + (s.size - K) := by omega
  have r1 : (0 : Int) ≤ (K : Int) := by omega
  have r2 : (K : Int) ≤ (s.size : Int) := by omega
  have r3 : (K : Int) + 1 ≤ (s.size : Int) := by omega
  have r4 : IntKind.i64.wrap ((K : Int) + 1) = (K : Int) + 1 := IntWalk.i64_in _ (by omega)
  have r5 : (0 : Int) ≤ (K : Int) + 1 := by omega
  have l1 : (s.extract 0 K).size ≤ 22 := ext_le s 0 K hs
  have l2 : (s.extract (K + 1) s.size).size ≤ 22 := ext_le s (K + 1) s.size hs
  have l3 : (s.extract K s.size).size ≤ 22 := ext_le s K s.size hs
  go_wp2
  go_region
  clear hM2 htz hK2 hsz
  go_wp2
  go_region
  obtain ⟨X0, hX0⟩ : ∃ X, s.extract 0 K ++ s.extract (K + 1) s.size = X := ⟨_, rfl⟩
  obtain ⟨X1, hX1⟩ : ∃ X, s.extract 0 K ++ ⟨#[b]⟩ ++ s.extract K s.size = X := ⟨_, rfl⟩
  have HX0 : Hid (X0.size ≤ 100000) := by show X0.size ≤ 100000; rw [← hX0, ByteArray.size_append]; omega
  have HX1 : Hid (X1.size ≤ 100000) := by show X1.size ≤ 100000; rw [← hX1, ByteArray.size_append, ByteArray.size_append]; show _ + 1 + _ ≤ _; omega
  rw [hX0, hX1]
  clear hX0 hX1
  have HST : Hid (CutSt w (((w3.alloc (.cells #[.int .u8 b.toNat] 5)).alloc (.cells #[.string X0, .string X1] 9)).drew.drew) w1.heap.size (w3.heap.size + 1) k p o g X0 X1) := by
    have hb : Below w3.heap.size w3 (((w3.alloc (.cells #[.int .u8 b.toNat] 5)).alloc (.cells #[.string X0, .string X1] 9)).drew.drew) := bel2 (bel2 (bup w3 _) (bup _ _)) (bel2 (bel_dr _) (bel_dr _))
    exact ⟨bel2 HB3.out hb, (HE.out.below HB3.out).below hb, HA3.out.1.below hb, HA3.out.2.below hb, by go_simp, by go_simp⟩
  clear r1 r2 r3 r4 r5 l1 l2 l3 f1 f2 f3
  go_wp2
  go_loopw [89] (fun i wq => ∃ j : Nat, j ≤ 2 ∧ i = .int .i64 j ∧ Hid (CutSt w wq w1.heap.size (w3.heap.size + 1) k p o g X0 X1)) (fun i _ => 2 - (intOf i).toNat)
  case atStart => exact ⟨0, by omega, rfl, HST.out⟩
  case round =>
    clear HST
    obtain ⟨j, hj, rfl, HS⟩ := hrel
    by_cases hj2 : j = 2
    · rw [show (j : Int) = 2 by omega]
      clear hj hj2
      have r1 : (0 : Int) ≤ (M : Int) := by omega
      have r2 : (M : Int) ≤ (t.size : Int) := by omega
      have r3 : (M : Int) + 1 ≤ (t.size : Int) := by omega
      have r4 : IntKind.i64.wrap ((M : Int) + 1) = (M : Int) + 1 := IntWalk.i64_in _ (by omega)
      have r5 : (0 : Int) ≤ (M : Int) + 1 := by omega
      have l1 : (t.extract 0 M).size ≤ 22 := ext_le t 0 M ht
      have l2 : (t.extract (M + 1) t.size).size ≤ 22 := ext_le t (M + 1) t.size ht
      have l3 : (t.extract M t.size).size ≤ 22 := ext_le t M t.size ht
      have f1 : ¬ 9223372036854775807 < min M t.size + (t.size - (M + 1)) := by omega
      have f2 : ¬ 9223372036854775807 < min M t.size + 1 := by omega
      have f3 : ¬ 9223372036854775807 < min M t.size + 1 + (t.size - M) := by omega
      go_wp2
      go_region
      obtain ⟨Y0, hY0⟩ : ∃ X, t.extract 0 M ++ t.extract (M + 1) t.size = X := ⟨_, rfl⟩
      obtain ⟨Y1, hY1⟩ : ∃ X, t.extract 0 M ++ ⟨#[b]⟩ ++ t.extract M t.size = X := ⟨_, rfl⟩
      have HY0 : Hid (Y0.size ≤ 100000) := by show Y0.size ≤ 100000; rw [← hY0, ByteArray.size_append]; omega
      have HY1 : Hid (Y1.size ≤ 100000) := by show Y1.size ≤ 100000; rw [← hY1, ByteArray.size_append, ByteArray.size_append]; show _ + 1 + _ ≤ _; omega
      rw [hY0, hY1]
      clear hY0 hY1
      have HST : Hid (CutSt w (((wr.alloc (.cells #[.int .u8 b.toNat] 5)).alloc (.cells #[.string Y0, .string Y1] 9)).drew) w1.heap.size (wr.heap.size + 1) k p o g Y0 Y1) := by
        have hb : Below wr.heap.size wr (((wr.alloc (.cells #[.int .u8 b.toNat] 5)).alloc (.cells #[.string Y0, .string Y1] 9)).drew) := bel2 (bel2 (bup wr _) (bup _ _)) (bel_dr _)
        exact ⟨bel2 HS.out.be hb, HS.out.en.below hb, HS.out.d.below hb, HS.out.r.below hb, by go_simp, by go_simp⟩
      clear r1 r2 r3 r4 r5 l1 l2 l3 f1 f2 f3 HS
      go_wp2
      go_loopw [140] (fun i wq => ∃ j : Nat, j ≤ 2 ∧ i = .int .i64 j ∧ Hid (CutSt w wq w1.heap.size (wr.heap.size + 1) k p o g Y0 Y1)) (fun i _ => 2 - (intOf i).toNat)
      case atStart => exact ⟨0, by omega, rfl, HST.out⟩
      case round =>
        clear HST
        obtain ⟨j, hj, rfl, HS⟩ := hrel
        by_cases hj2 : j = 2
        · rw [show (j : Int) = 2 by omega]
          clear hj hj2
          go_wp2_with fail
          refine (works_ok _ HS.out.en).mono ?_
          rintro e wz ⟨rfl, hbz⟩
          go_wp2
          go_ret
          exact ⟨rfl, bel2 HS.out.be hbz⟩
        · have hj01 : j = 0 ∨ j = 1 := by omega
          rcases hj01 with rfl | rfl
          · have hx := HS.out.x0
            rcases cut_or HOo.out Y0 t Htt.out with ⟨k', p', g', hN, hX, hne⟩ | ⟨p', g', hN, hX, hne⟩ | ⟨g', hN, hX, hne⟩ | ⟨hX, hv⟩ | hX
            · have hv : ((k' : Int) == (k : Int)) = false := beq_eq_false_iff_ne.2 (by omega)
              have HP : Hid (GivesE 26 #[.string Y0] (.tuple #[.agg #[.int .i64 k', .int .i64 p', .int .u32 g'], .int .i64 0])) := by rw [str_eq hX]; exact fun W q => oparse_yes k' p' g' hN W q
              clear hX hN
              go_wp2_with fail
              refine (HP.out _ HS.out.en).mono ?_
              rintro e wn ⟨rfl, hb⟩
              have HS2 := Lib.hid (HS.out.below (bel2 hb (bup wn (.cells #[.int .i64 k', .int .i64 p', .int .u32 g'] 39))))
              obtain ⟨d0, d1, d2⟩ := HS2.out.r
              clear hb HP
              go_wp2
              go_roundw
              case rel => exact ⟨1, by omega, by go_num, HS2.out⟩
              case measure => simp [intOf]
            · have hv : ((p' : Int) == (o : Int)) = false := beq_eq_false_iff_ne.2 (by omega)
              have HP : Hid (GivesE 26 #[.string Y0] (.tuple #[.agg #[.int .i64 k, .int .i64 p', .int .u32 g'], .int .i64 0])) := by rw [str_eq hX]; exact fun W q => oparse_yes k p' g' hN W q
              clear hX hN
              go_wp2_with fail
              refine (HP.out _ HS.out.en).mono ?_
              rintro e wn ⟨rfl, hb⟩
              have HS2 := Lib.hid (HS.out.below (bel2 hb (bup wn (.cells #[.int .i64 k, .int .i64 p', .int .u32 g'] 39))))
              obtain ⟨d0, d1, d2⟩ := HS2.out.r
              clear hb HP
              go_wp2
              go_roundw
              case rel => exact ⟨1, by omega, by go_num, HS2.out⟩
              case measure => simp [intOf]
            · have hv : ((g' : Int) == (g : Int)) = false := beq_eq_false_iff_ne.2 (by omega)
              have HP : Hid (GivesE 26 #[.string Y0] (.tuple #[.agg #[.int .i64 k, .int .i64 o, .int .u32 g'], .int .i64 0])) := by rw [str_eq hX]; exact fun W q => oparse_yes k o g' hN W q
              clear hX hN
              go_wp2_with fail
              refine (HP.out _ HS.out.en).mono ?_
              rintro e wn ⟨rfl, hb⟩
              have HS2 := Lib.hid (HS.out.below (bel2 hb (bup wn (.cells #[.int .i64 k, .int .i64 o, .int .u32 g'] 39))))
              obtain ⟨d0, d1, d2⟩ := HS2.out.r
              clear hb HP
              go_wp2
              go_roundw
              case rel => exact ⟨1, by omega, by go_num, HS2.out⟩
              case measure => simp [intOf]
            · have hN := HOo.out
              have HP : Hid (GivesE 26 #[.string Y0] (.tuple #[.agg #[.int .i64 k, .int .i64 o, .int .u32 g], .int .i64 0])) := by rw [str_eq hX]; exact fun W q => oparse_yes k o g hN W q
              clear hX hN
              go_wp2_with fail
              refine (HP.out _ HS.out.en).mono ?_
              rintro e wn ⟨rfl, hb⟩
              have HS2 := Lib.hid (HS.out.below (bel2 hb (bup wn (.cells #[.int .i64 k, .int .i64 o, .int .u32 g] 39))))
              obtain ⟨d0, d1, d2⟩ := HS2.out.r
              clear hb HP
              go_wp2
              go_roundw
              case rel => exact ⟨1, by omega, by go_num, HS2.out⟩
              case measure => simp [intOf]
            · skip
              have HP : Hid (GivesE 26 #[.string Y0] (.tuple #[.agg #[.int .i64 0, .int .i64 0, .int .u32 0], .int .i64 9])) := fun W q => oparse_no Y0 HY0.out hX W q
              clear hX
              go_wp2_with fail
              refine (HP.out _ HS.out.en).mono ?_
              rintro e wn ⟨rfl, hb⟩
              have HS2 := Lib.hid (HS.out.below (bel2 hb (bup wn (.cells #[.int .i64 0, .int .i64 0, .int .u32 0] 39))))
              obtain ⟨d0, d1, d2⟩ := HS2.out.r
              clear hb HP
              go_wp2
              go_roundw
              case rel => exact ⟨1, by omega, by go_num, HS2.out⟩
              case measure => simp [intOf]
          · have hx := HS.out.x1
            rcases cut_or HOo.out Y1 t Htt.out with ⟨k', p', g', hN, hX, hne⟩ | ⟨p', g', hN, hX, hne⟩ | ⟨g', hN, hX, hne⟩ | ⟨hX, hv⟩ | hX
            · have hv : ((k' : Int) == (k : Int)) = false := beq_eq_false_iff_ne.2 (by omega)
              have HP : Hid (GivesE 26 #[.string Y1] (.tuple #[.agg #[.int .i64 k', .int .i64 p', .int .u32 g'], .int .i64 0])) := by rw [str_eq hX]; exact fun W q => oparse_yes k' p' g' hN W q
              clear hX hN
              go_wp2_with fail
              refine (HP.out _ HS.out.en).mono ?_
              rintro e wn ⟨rfl, hb⟩
              have HS2 := Lib.hid (HS.out.below (bel2 hb (bup wn (.cells #[.int .i64 k', .int .i64 p', .int .u32 g'] 39))))
              obtain ⟨d0, d1, d2⟩ := HS2.out.r
              clear hb HP
              go_wp2
              go_roundw
              case rel => exact ⟨2, by omega, by go_num, HS2.out⟩
              case measure => simp [intOf]
            · have hv : ((p' : Int) == (o : Int)) = false := beq_eq_false_iff_ne.2 (by omega)
              have HP : Hid (GivesE 26 #[.string Y1] (.tuple #[.agg #[.int .i64 k, .int .i64 p', .int .u32 g'], .int .i64 0])) := by rw [str_eq hX]; exact fun W q => oparse_yes k p' g' hN W q
              clear hX hN
              go_wp2_with fail
              refine (HP.out _ HS.out.en).mono ?_
              rintro e wn ⟨rfl, hb⟩
              have HS2 := Lib.hid (HS.out.below (bel2 hb (bup wn (.cells #[.int .i64 k, .int .i64 p', .int .u32 g'] 39))))
              obtain ⟨d0, d1, d2⟩ := HS2.out.r
              clear hb HP
              go_wp2
              go_roundw
              case rel => exact ⟨2, by omega, by go_num, HS2.out⟩
              case measure => simp [intOf]
            · have hv : ((g' : Int) == (g : Int)) = false := beq_eq_false_iff_ne.2 (by omega)
              have HP : Hid (GivesE 26 #[.string Y1] (.tuple #[.agg #[.int .i64 k, .int .i64 o, .int .u32 g'], .int .i64 0])) := by rw [str_eq hX]; exact fun W q => oparse_yes k o g' hN W q
              clear hX hN
              go_wp2_with fail
              refine (HP.out _ HS.out.en).mono ?_
              rintro e wn ⟨rfl, hb⟩
              have HS2 := Lib.hid (HS.out.below (bel2 hb (bup wn (.cells #[.int .i64 k, .int .i64 o, .int .u32 g'] 39))))
              obtain ⟨d0, d1, d2⟩ := HS2.out.r
              clear hb HP
              go_wp2
              go_roundw
              case rel => exact ⟨2, by omega, by go_num, HS2.out⟩
              case measure => simp [intOf]
            · have hN := HOo.out
              have HP : Hid (GivesE 26 #[.string Y1] (.tuple #[.agg #[.int .i64 k, .int .i64 o, .int .u32 g], .int .i64 0])) := by rw [str_eq hX]; exact fun W q => oparse_yes k o g hN W q
              clear hX hN
              go_wp2_with fail
              refine (HP.out _ HS.out.en).mono ?_
              rintro e wn ⟨rfl, hb⟩
              have HS2 := Lib.hid (HS.out.below (bel2 hb (bup wn (.cells #[.int .i64 k, .int .i64 o, .int .u32 g] 39))))
              obtain ⟨d0, d1, d2⟩ := HS2.out.r
              clear hb HP
              go_wp2
              go_roundw
              case rel => exact ⟨2, by omega, by go_num, HS2.out⟩
              case measure => simp [intOf]
            · skip
              have HP : Hid (GivesE 26 #[.string Y1] (.tuple #[.agg #[.int .i64 0, .int .i64 0, .int .u32 0], .int .i64 9])) := fun W q => oparse_no Y1 HY1.out hX W q
              clear hX
              go_wp2_with fail
              refine (HP.out _ HS.out.en).mono ?_
              rintro e wn ⟨rfl, hb⟩
              have HS2 := Lib.hid (HS.out.below (bel2 hb (bup wn (.cells #[.int .i64 0, .int .i64 0, .int .u32 0] 39))))
              obtain ⟨d0, d1, d2⟩ := HS2.out.r
              clear hb HP
              go_wp2
              go_roundw
              case rel => exact ⟨2, by omega, by go_num, HS2.out⟩
              case measure => simp [intOf]
    · have hj01 : j = 0 ∨ j = 1 := by omega
      rcases hj01 with rfl | rfl
      · have hx := HS.out.x0
        rcases cut_or HOd.out X0 s Hst.out with ⟨k', p', g', hN, hX, hne⟩ | ⟨p', g', hN, hX, hne⟩ | ⟨g', hN, hX, hne⟩ | ⟨hX, hv⟩ | hX
        · have hv : ((k' : Int) == (k : Int)) = false := beq_eq_false_iff_ne.2 (by omega)
          have HP : Hid (GivesE 22 #[.string X0] (.tuple #[.agg #[.int .i64 k', .int .i64 p', .int .u32 g'], .int .i64 0])) := by rw [str_eq hX]; exact fun W q => dparse_yes k' p' g' hN W q
          clear hX hN
          go_wp2_with fail
          refine (HP.out _ HS.out.en).mono ?_
          rintro e wn ⟨rfl, hb⟩
          have HS2 := Lib.hid (HS.out.below (bel2 hb (bup wn (.cells #[.int .i64 k', .int .i64 p', .int .u32 g'] 24))))
          obtain ⟨d0, d1, d2⟩ := HS2.out.d
          clear hb HP
          go_wp2
          go_roundw
          case rel => exact ⟨1, by omega, by go_num, HS2.out⟩
          case measure => simp [intOf]
        · have hv : ((p' : Int) == (p : Int)) = false := beq_eq_false_iff_ne.2 (by omega)
          have HP : Hid (GivesE 22 #[.string X0] (.tuple #[.agg #[.int .i64 k, .int .i64 p', .int .u32 g'], .int .i64 0])) := by rw [str_eq hX]; exact fun W q => dparse_yes k p' g' hN W q
          clear hX hN
          go_wp2_with fail
          refine (HP.out _ HS.out.en).mono ?_
          rintro e wn ⟨rfl, hb⟩
          have HS2 := Lib.hid (HS.out.below (bel2 hb (bup wn (.cells #[.int .i64 k, .int .i64 p', .int .u32 g'] 24))))
          obtain ⟨d0, d1, d2⟩ := HS2.out.d
          clear hb HP
          go_wp2
          go_roundw
          case rel => exact ⟨1, by omega, by go_num, HS2.out⟩
          case measure => simp [intOf]
        · have hv : ((g' : Int) == (g : Int)) = false := beq_eq_false_iff_ne.2 (by omega)
          have HP : Hid (GivesE 22 #[.string X0] (.tuple #[.agg #[.int .i64 k, .int .i64 p, .int .u32 g'], .int .i64 0])) := by rw [str_eq hX]; exact fun W q => dparse_yes k p g' hN W q
          clear hX hN
          go_wp2_with fail
          refine (HP.out _ HS.out.en).mono ?_
          rintro e wn ⟨rfl, hb⟩
          have HS2 := Lib.hid (HS.out.below (bel2 hb (bup wn (.cells #[.int .i64 k, .int .i64 p, .int .u32 g'] 24))))
          obtain ⟨d0, d1, d2⟩ := HS2.out.d
          clear hb HP
          go_wp2
          go_roundw
          case rel => exact ⟨1, by omega, by go_num, HS2.out⟩
          case measure => simp [intOf]
        · have hN := HOd.out
          have HP : Hid (GivesE 22 #[.string X0] (.tuple #[.agg #[.int .i64 k, .int .i64 p, .int .u32 g], .int .i64 0])) := by rw [str_eq hX]; exact fun W q => dparse_yes k p g hN W q
          clear hX hN
          go_wp2_with fail
          refine (HP.out _ HS.out.en).mono ?_
          rintro e wn ⟨rfl, hb⟩
          have HS2 := Lib.hid (HS.out.below (bel2 hb (bup wn (.cells #[.int .i64 k, .int .i64 p, .int .u32 g] 24))))
          obtain ⟨d0, d1, d2⟩ := HS2.out.d
          clear hb HP
          go_wp2
          go_roundw
          case rel => exact ⟨1, by omega, by go_num, HS2.out⟩
          case measure => simp [intOf]
        · skip
          have HP : Hid (GivesE 22 #[.string X0] (.tuple #[.agg #[.int .i64 0, .int .i64 0, .int .u32 0], .int .i64 9])) := fun W q => dparse_no X0 HX0.out hX W q
          clear hX
          go_wp2_with fail
          refine (HP.out _ HS.out.en).mono ?_
          rintro e wn ⟨rfl, hb⟩
          have HS2 := Lib.hid (HS.out.below (bel2 hb (bup wn (.cells #[.int .i64 0, .int .i64 0, .int .u32 0] 24))))
          obtain ⟨d0, d1, d2⟩ := HS2.out.d
          clear hb HP
          go_wp2
          go_roundw
          case rel => exact ⟨1, by omega, by go_num, HS2.out⟩
          case measure => simp [intOf]
      · have hx := HS.out.x1
        rcases cut_or HOd.out X1 s Hst.out with ⟨k', p', g', hN, hX, hne⟩ | ⟨p', g', hN, hX, hne⟩ | ⟨g', hN, hX, hne⟩ | ⟨hX, hv⟩ | hX
        · have hv : ((k' : Int) == (k : Int)) = false := beq_eq_false_iff_ne.2 (by omega)
          have HP : Hid (GivesE 22 #[.string X1] (.tuple #[.agg #[.int .i64 k', .int .i64 p', .int .u32 g'], .int .i64 0])) := by rw [str_eq hX]; exact fun W q => dparse_yes k' p' g' hN W q
          clear hX hN
          go_wp2_with fail
          refine (HP.out _ HS.out.en).mono ?_
          rintro e wn ⟨rfl, hb⟩
          have HS2 := Lib.hid (HS.out.below (bel2 hb (bup wn (.cells #[.int .i64 k', .int .i64 p', .int .u32 g'] 24))))
          obtain ⟨d0, d1, d2⟩ := HS2.out.d
          clear hb HP
          go_wp2
          go_roundw
          case rel => exact ⟨2, by omega, by go_num, HS2.out⟩
          case measure => simp [intOf]
        · have hv : ((p' : Int) == (p : Int)) = false := beq_eq_false_iff_ne.2 (by omega)
          have HP : Hid (GivesE 22 #[.string X1] (.tuple #[.agg #[.int .i64 k, .int .i64 p', .int .u32 g'], .int .i64 0])) := by rw [str_eq hX]; exact fun W q => dparse_yes k p' g' hN W q
          clear hX hN
          go_wp2_with fail
          refine (HP.out _ HS.out.en).mono ?_
          rintro e wn ⟨rfl, hb⟩
          have HS2 := Lib.hid (HS.out.below (bel2 hb (bup wn (.cells #[.int .i64 k, .int .i64 p', .int .u32 g'] 24))))
          obtain ⟨d0, d1, d2⟩ := HS2.out.d
          clear hb HP
          go_wp2
          go_roundw
          case rel => exact ⟨2, by omega, by go_num, HS2.out⟩
          case measure => simp [intOf]
        · have hv : ((g' : Int) == (g : Int)) = false := beq_eq_false_iff_ne.2 (by omega)
          have HP : Hid (GivesE 22 #[.string X1] (.tuple #[.agg #[.int .i64 k, .int .i64 p, .int .u32 g'], .int .i64 0])) := by rw [str_eq hX]; exact fun W q => dparse_yes k p g' hN W q
          clear hX hN
          go_wp2_with fail
          refine (HP.out _ HS.out.en).mono ?_
          rintro e wn ⟨rfl, hb⟩
          have HS2 := Lib.hid (HS.out.below (bel2 hb (bup wn (.cells #[.int .i64 k, .int .i64 p, .int .u32 g'] 24))))
          obtain ⟨d0, d1, d2⟩ := HS2.out.d
          clear hb HP
          go_wp2
          go_roundw
          case rel => exact ⟨2, by omega, by go_num, HS2.out⟩
          case measure => simp [intOf]
        · have hN := HOd.out
          have HP : Hid (GivesE 22 #[.string X1] (.tuple #[.agg #[.int .i64 k, .int .i64 p, .int .u32 g], .int .i64 0])) := by rw [str_eq hX]; exact fun W q => dparse_yes k p g hN W q
          clear hX hN
          go_wp2_with fail
          refine (HP.out _ HS.out.en).mono ?_
          rintro e wn ⟨rfl, hb⟩
          have HS2 := Lib.hid (HS.out.below (bel2 hb (bup wn (.cells #[.int .i64 k, .int .i64 p, .int .u32 g] 24))))
          obtain ⟨d0, d1, d2⟩ := HS2.out.d
          clear hb HP
          go_wp2
          go_roundw
          case rel => exact ⟨2, by omega, by go_num, HS2.out⟩
          case measure => simp [intOf]
        · skip
          have HP : Hid (GivesE 22 #[.string X1] (.tuple #[.agg #[.int .i64 0, .int .i64 0, .int .u32 0], .int .i64 9])) := fun W q => dparse_no X1 HX1.out hX W q
          clear hX
          go_wp2_with fail
          refine (HP.out _ HS.out.en).mono ?_
          rintro e wn ⟨rfl, hb⟩
          have HS2 := Lib.hid (HS.out.below (bel2 hb (bup wn (.cells #[.int .i64 0, .int .i64 0, .int .u32 0] 24))))
          obtain ⟨d0, d1, d2⟩ := HS2.out.d
          clear hb HP
          go_wp2
          go_roundw
          case rel => exact ⟨2, by omega, by go_num, HS2.out⟩
          case measure => simp [intOf]

theorem dCut_walk (x1 y1 z1 a c : Int) (w : World) (a0 : 0 ≤ x1) (a1 : x1 ≤ 255) (b0 : 0 ≤ y1) (b1 : y1 ≤ 255) (c0 : 0 ≤ z1) (c1 : z1 ≤ 4294967295) (d0 : 0 ≤ a) (d1 : a ≤ 255) (e0 : 0 ≤ c) (e1 : c ≤ 255) (he : Env w) :
    Calls Tryd.prog 11 #[.int .u8 x1, .int .u8 y1, .int .u32 z1, .int .u8 a, .int .u8 c] w fun e w' => e = .returned (.bool true) ∧ Below w.heap.size w w' := by
  obtain ⟨k, p, o, g, hO, hO', _, hM⟩ := made_nat x1 y1 z1 ⟨a0, a1⟩ ⟨b0, b1⟩ ⟨c0, c1⟩
  have hs := txt_bytes (m := 46) hO (by omega)
  have ht := txt_bytes (m := 58) hO' (by omega)
  have hs4 : 4 ≤ (⟨(txt 46 k p g).toArray⟩ : ByteArray).size := by have := (txt_size (m := 46) hO (by omega)).1; simpa [ByteArray.size] using this
  have ht4 : 4 ≤ (⟨(txt 58 k o g).toArray⟩ : ByteArray).size := by have := (txt_size (m := 58) hO' (by omega)).1; simpa [ByteArray.size] using this
  obtain ⟨s, hsd⟩ : ∃ s, s = (⟨(txt 46 k p g).toArray⟩ : ByteArray) := ⟨_, rfl⟩
  obtain ⟨t, htd⟩ : ∃ t, t = (⟨(txt 58 k o g).toArray⟩ : ByteArray) := ⟨_, rfl⟩
  rw [← hsd] at hs hs4
  rw [← htd] at ht ht4
  have m1 := Int.emod_nonneg a (show (s.size : Int) ≠ 0 by omega)
  have m2 := Int.emod_lt_of_pos a (show (0 : Int) < (s.size : Int) by omega)
  have m3 := Int.emod_nonneg a (show (t.size : Int) ≠ 0 by omega)
  have m4 := Int.emod_lt_of_pos a (show (0 : Int) < (t.size : Int) by omega)
  have hb : c = ((UInt8.ofNat c.toNat).toNat : Int) := by rw [UInt8.toNat_ofNat']; omega
  rw [hb]
  exact dCut_core x1 y1 z1 a _ k p o g (a % (s.size : Int)).toNat (a % (t.size : Int)).toNat s t w hs ht hs4 ht4 ⟨d0, d1⟩ (by omega) (by omega) (by omega) (by omega) hO hO' (by rw [hsd]) (by rw [htd]) hM (fun W q => by rw [hsd]; exact dtext_ok k p g hO W q) (fun W q => by rw [htd]; exact otext_ok k o g hO' W q) he
end Go.Proofs.YtnjmlecbljeofaaDoor
