/- The contract of the program's Parse. -/
import Derived.Test.YtmbkhkijmfogcaaDoorNq
namespace Go.Proofs.YtmbkhkijmfogcaaDoor
open Go.RowKit

set_option maxRecDepth 100000 in
set_option maxHeartbeats 4000000 in
theorem parse_yes (p : Ob) (hp : Poss p) (w : World) (he : Env w) :
    Calls Tryd.prog 25 #[.string ⟨(otxt p).toArray⟩] w fun e w' => e = .returned (.tuple #[obv p, .int .i64 0]) ∧ Below w.heap.size w w' := by
  have HRD := Lib.hid (read_any ⟨(otxt p).toArray⟩ (by rw [size_list]; have := otxt_len hp; omega))
  have HT := Lib.hid (text_any p hp.rg)
  rw [text_ok' hp] at HT
  simp only at HT
  have HP := Lib.hid hp
  obtain ⟨w1, hw1⟩ : ∃ w1, w.alloc (.cells (obc ob0) 27) = w1 := ⟨_, rfl⟩
  have hb1 : Bk w1 w.heap.size 27 (obc ob0) := by rw [← hw1]; exact Bk.new _ _ _
  have hB : Below w.heap.size w w1 := by rw [← hw1]; exact (Below.refl _ w).alloc (Nat.le_refl _) _
  have HW1 := Lib.hid hw1
  have HB := Lib.hid (And.intro hb1 hB)
  have HE := Lib.hid (he.below hB)
  simp only [obc, ob0] at HW1
  obtain ⟨S, hS⟩ : ∃ S : ByteArray, ⟨(otxt p).toArray⟩ = S := ⟨_, rfl⟩
  have hSl : S.data.toList = otxt p := by rw [← hS]
  rw [hS] at HRD HT ⊢
  have HSL := Lib.hid hSl
  unfold obv obc at HRD HT ⊢
  clear hw1 hb1 hB he hp hS hSl
  go_enter Tryd.func25, Tryd.ntmps25
  go_wp2_with fail
  rw [HW1.out]
  refine (HRD.out _ HE.out).mono ?_
  rintro e w2 ⟨o, ho, rfl, hb2⟩
  obtain rfl : o = p := ho.2 p HP.out HSL.out
  clear ho
  obtain ⟨w3, hw3⟩ : ∃ w3, w2.alloc (.cells (obc o) 27) = w3 := ⟨_, rfl⟩
  have hb3 : Bk w3 w2.heap.size 27 (obc o) := by rw [← hw3]; exact Bk.new _ _ _
  have hB3 : Below w2.heap.size w2 w3 := by rw [← hw3]; exact (Below.refl _ w2).alloc (Nat.le_refl _) _
  have HI : Hid (Bk w3 w2.heap.size 27 (obc o) ∧ Bk w3 w.heap.size 27 (obc ob0) ∧ Env w3 ∧ Below w.heap.size w w3) :=
    ⟨hb3, (HB.out.1.below hb2).below hB3, (HE.out.below hb2).below hB3, bel2 (bel2 HB.out.2 hb2) hB3⟩
  have HW3 := Lib.hid hw3
  have hsz2 : w1.heap.size ≤ w2.heap.size := hb2.size
  simp only [obc] at HW3
  clear hw3 hb3 hB3 hb2
  go_upto_region 2 with fail
  rw [HW3.out]
  obtain ⟨b0, b1, b2, b3, b4, b5, b6, b7, b8, b9⟩ := HI.out.1.ob
  go_wp2_with fail
  refine (HT.out _ HI.out.2.2.1).mono ?_
  rintro e w4 ⟨rfl, hb4⟩
  clear b0 b1 b2 b3 b4 b5 b6 b7 b8 b9
  have HB4 := Lib.hid (bel2 HI.out.2.2.2 hb4)
  obtain ⟨b0, b1, b2, b3, b4, b5, b6, b7, b8, b9⟩ := (HI.out.1.below hb4).ob
  obtain ⟨a0, a1, a2, a3, a4, a5, a6, a7, a8, a9⟩ := (HI.out.2.1.below hb4).ob
  obtain ⟨f0, f1, f2, f3, f4, f5, f6, f7, f8, f9⟩ := (HI.out.2.1.below hb4).ofz
  simp only [ob0] at a0 a1 a2 a3 a4 a5 a6 a7 a8 a9
  clear hb4
  go_wp2
  refine bodyPost_ret (v := .tuple #[.agg #[.int .i64 o.n, .int .i64 o.a.1, .int .u32 o.a.2, .int .i64 o.b.1, .int .u32 o.b.2, .int .i64 o.c.1, .int .u32 o.c.2, .int .i64 o.d.1, .int .u32 o.d.2, .bool o.h], .int .i64 0]) ?_ rfl ⟨rfl, ?_⟩
  · simp [results, Tryd.f25, go_sem, *]
  · exact bel10 HB4.out (Nat.le_refl _) _ _ _ _ _ _ _ _ _ _

set_option maxRecDepth 100000 in
set_option maxHeartbeats 4000000 in
theorem parse_no (S : ByteArray) (hs : S.size ≤ 100000) (hn : NoObj S.data.toList) (w : World) (he : Env w) :
    Calls Tryd.prog 25 #[.string S] w fun e w' => e = .returned (.tuple #[obv ob0, .int .i64 9]) ∧ Below w.heap.size w w' := by
  have HRD := Lib.hid (read_any S hs)
  have HNO := Lib.hid hn
  obtain ⟨w1, hw1⟩ : ∃ w1, w.alloc (.cells (obc ob0) 27) = w1 := ⟨_, rfl⟩
  have hb1 : Bk w1 w.heap.size 27 (obc ob0) := by rw [← hw1]; exact Bk.new _ _ _
  have hB : Below w.heap.size w w1 := by rw [← hw1]; exact (Below.refl _ w).alloc (Nat.le_refl _) _
  have HW1 := Lib.hid hw1
  have HB := Lib.hid (And.intro hb1 hB)
  have HE := Lib.hid (he.below hB)
  simp only [obc, ob0] at HW1
  unfold obv obc at HRD
  clear hw1 hb1 hB he hs hn
  go_enter Tryd.func25, Tryd.ntmps25
  go_wp2_with fail
  rw [HW1.out]
  refine (HRD.out _ HE.out).mono ?_
  rintro e w2 ⟨o, ho, rfl, hb2⟩
  have HT := Lib.hid (text_any o ho.1)
  obtain ⟨w3, hw3⟩ : ∃ w3, w2.alloc (.cells (obc o) 27) = w3 := ⟨_, rfl⟩
  have hb3 : Bk w3 w2.heap.size 27 (obc o) := by rw [← hw3]; exact Bk.new _ _ _
  have hB3 : Below w2.heap.size w2 w3 := by rw [← hw3]; exact (Below.refl _ w2).alloc (Nat.le_refl _) _
  have HI : Hid (Bk w3 w2.heap.size 27 (obc o) ∧ Bk w3 w.heap.size 27 (obc ob0) ∧ Env w3 ∧ Below w.heap.size w w3) :=
    ⟨hb3, (HB.out.1.below hb2).below hB3, (HE.out.below hb2).below hB3, bel2 (bel2 HB.out.2 hb2) hB3⟩
  have HW3 := Lib.hid hw3
  have hsz2 : w1.heap.size ≤ w2.heap.size := hb2.size
  simp only [obc] at HW3
  have hcase : (∃ T : ByteArray, textR o = (T.data.toList, 0) ∧ (T.toList == S.toList) = false) ∨ textR o = ([], 2) := by
    by_cases hp : Poss o
    · refine .inl ⟨⟨(otxt o).toArray⟩, by rw [text_ok' hp], ?_⟩
      rw [beq_eq_false_iff_ne, ByteArray.toList_eq, ByteArray.toList_eq]
      exact fun e => HNO.out o hp e.symm
    · exact .inr (text_bad' hp)
  unfold obv obc at HT
  clear hw3 hb3 hB3 hb2 ho
  rcases hcase with ⟨T, hT, hne⟩ | hT
  · rw [hT] at HT
    simp only at HT
    have eT : (⟨T.data.toList.toArray⟩ : ByteArray) = T := by apply ByteArray.ext; simp
    rw [eT] at HT
    clear hT eT
    go_upto_region 2 with fail
    rw [HW3.out]
    obtain ⟨b0, b1, b2, b3, b4, b5, b6, b7, b8, b9⟩ := HI.out.1.ob
    go_wp2_with fail
    refine (HT.out _ HI.out.2.2.1).mono ?_
    rintro e w4 ⟨rfl, hb4⟩
    clear b0 b1 b2 b3 b4 b5 b6 b7 b8 b9
    have HB4 := Lib.hid (bel2 HI.out.2.2.2 hb4)
    obtain ⟨a0, a1, a2, a3, a4, a5, a6, a7, a8, a9⟩ := (HI.out.2.1.below hb4).ob
    obtain ⟨f0, f1, f2, f3, f4, f5, f6, f7, f8, f9⟩ := (HI.out.2.1.below hb4).ofz
    simp only [ob0] at a0 a1 a2 a3 a4 a5 a6 a7 a8 a9
    clear hb4
    go_wp2
    refine bodyPost_ret (v := .tuple #[.agg #[.int .i64 0, .int .i64 0, .int .u32 0, .int .i64 0, .int .u32 0, .int .i64 0, .int .u32 0, .int .i64 0, .int .u32 0, .bool false], .int .i64 9]) ?_ rfl ⟨rfl, ?_⟩
    · simp [results, Tryd.f25, go_sem, *]
    · exact bel10 HB4.out (Nat.le_refl _) _ _ _ _ _ _ _ _ _ _
  · rw [hT] at HT
    simp only at HT
    clear hT
    go_upto_region 2 with fail
    rw [HW3.out]
    obtain ⟨b0, b1, b2, b3, b4, b5, b6, b7, b8, b9⟩ := HI.out.1.ob
    go_wp2_with fail
    refine (HT.out _ HI.out.2.2.1).mono ?_
    rintro e w4 ⟨rfl, hb4⟩
    clear b0 b1 b2 b3 b4 b5 b6 b7 b8 b9
    have HB4 := Lib.hid (bel2 HI.out.2.2.2 hb4)
    obtain ⟨a0, a1, a2, a3, a4, a5, a6, a7, a8, a9⟩ := (HI.out.2.1.below hb4).ob
    obtain ⟨f0, f1, f2, f3, f4, f5, f6, f7, f8, f9⟩ := (HI.out.2.1.below hb4).ofz
    simp only [ob0] at a0 a1 a2 a3 a4 a5 a6 a7 a8 a9
    clear hb4
    go_wp2
    refine bodyPost_ret (v := .tuple #[.agg #[.int .i64 0, .int .i64 0, .int .u32 0, .int .i64 0, .int .u32 0, .int .i64 0, .int .u32 0, .int .i64 0, .int .u32 0, .bool false], .int .i64 9]) ?_ rfl ⟨rfl, ?_⟩
    · simp [results, Tryd.f25, go_sem, *]
    · exact bel10 HB4.out (Nat.le_refl _) _ _ _ _ _ _ _ _ _ _
theorem parse_any (S : ByteArray) (hs : S.size ≤ 100000) (w : World) (he : Env w) :
    Calls Tryd.prog 25 #[.string S] w fun e w' => e = .returned (.tuple #[obv (parseR S.data.toList).1, .int .i64 (parseR S.data.toList).2]) ∧ Below w.heap.size w w' := by
  rcases obj_or S.data.toList with ⟨p, hp, h⟩ | h
  · rw [h, parse_ok' hp, str_eq h]
    exact parse_yes p hp w he
  · rw [parse_bad' h]
    exact parse_no S hs h w he
end Go.Proofs.YtmbkhkijmfogcaaDoor
