/- The contract of the program's Make. -/
import Derived.Test.YtfnhkapbfgofkaaWd
namespace Go.Proofs.Ytfnhkapbfgofkaa
open Go.RowKit

def MadeV (b p t : Nat) (H : Hp) (w w' : World) : Prop := HW w' b p t H ∧ Kept (fun z => z = p ∨ z = t) w w'
def MakeP (b p t : Nat) (H : Hp) (n : Int) (hd : Bool) (w : World) (e : Ending) (w' : World) : Prop := e = .returned (.tuple #[rfv (H.mR n hd), .int .i64 (H.mE n hd)]) ∧ Hid (MadeV b p t (H.made n hd) w w')
/-- New's contract, its cells written out. -/
theorem fnew_at (n : Int) (hn : -9223372036854775808 ≤ n ∧ n ≤ 9223372036854775807) (hd : Bool) (o : Ob) (E : Int) (hq : newR n hd = (o, E)) (w : World) : Calls Try.prog 36 #[.int .i64 n, .bool hd] w fun e w' => e = .returned (.tuple #[.agg #[.int .i64 o.n, .int .i64 o.a.1, .int .u32 o.a.2, .int .i64 o.b.1, .int .u32 o.b.2, .int .i64 o.c.1, .int .u32 o.c.2, .int .i64 o.d.1, .int .u32 o.d.2, .bool o.h], .int .i64 E]) ∧ Below w.heap.size w w' := by
  have := new_any n hn hd w
  rw [hq] at this
  exact this
theorem put_two {b p t : Nat} {H : Hp} {w W : World} (h : MadeV b p t H w W) (hB : Bk W w.heap.size 34 (rfc (0, 0))) (u x : Value) : MadeV b p t H w ((W.setCell ⟨w.heap.size, 0, none⟩ u).setCell ⟨w.heap.size, 1, none⟩ x) := by
  have k1 : Kept (· = w.heap.size) W ((W.setCell ⟨w.heap.size, 0, none⟩ u).setCell ⟨w.heap.size, 1, none⟩ x) := ((Kept.refl _ W).put1 0 _).put1 1 _
  refine ⟨h.1.kept k1 fun z hz e => ?_, ((h.2.mono fun _ _ e => Or.inl e).trans (k1.mono fun _ _ e => Or.inr e)).mono (T := fun z => z = p ∨ z = t) fun z hz e => ?_⟩
  · subst e
    exact h.1.box hB (by decide) (by decide) (by decide) hz
  · rcases e with e | e
    · exact e
    · omega
set_option maxHeartbeats 4000000 in
theorem make_bad (b p t : Nat) (H : Hp) (n : Int) (hd : Bool) (hn : -9223372036854775808 ≤ n ∧ n ≤ 9223372036854775807) (hp : ¬ Poss (mk n hd)) (w : World) (h : HW w b p t H) : Calls Try.prog 14 #[.pointer (some ⟨b, 0, none⟩), .int .i64 n, .bool hd] w (MakeP b p t H n hd w) := by
  have e1 : H.mE n hd = 2 := by unfold Hp.mE; rw [if_neg hp]
  have e2 : H.mR n hd = (0, 0) := by unfold Hp.mR; rw [if_neg hp]
  have e3 : H.made n hd = H := by unfold Hp.made; rw [if_neg hp]
  have NW := Lib.hid (fun W => fnew_at n hn hd ob0 2 (new_bad hp) W)
  have HV : Hid (∀ W, Below w.heap.size w W → Calls Try.prog 35 #[.pointer (some ⟨b, 0, none⟩)] W fun e w' => e = .returned (.bool true) ∧ W = w') := fun W hW => hvalid_yes b p W (h.below hW).c0
  have B0 : Hid (Bk (w.alloc (.cells (rfc (0, 0)) 34)) w.heap.size 34 (rfc (0, 0))) := Bk.new w _ _
  have HF : Hid (∀ W, Below w.heap.size w W → MadeV b p t H w W) := fun W hb => ⟨h.below hb, Kept.of_below hb⟩
  unfold MakeP
  rw [e1, e2, e3]
  show Calls _ _ _ w fun e w' => e = .returned (.tuple #[.agg #[.int .i64 0, .int .u32 0], .int .i64 2]) ∧ _
  simp only [rfc] at B0
  simp only [ob0] at NW
  clear h hp e1 e2 e3 hn
  go_enter Try.func14, Try.ntmps14
  go_wp2_with (first
    | (go_at_call 35; refine (HV.out _ (bel_new _ _)).mono ?_; rintro e w' ⟨rfl, rfl⟩)
    | (go_at_call 36; refine (NW.out _).mono ?_; rintro e w3 ⟨rfl, hb⟩; have hb4 := bel2 hb (bel_new w3 (.cells #[.int .i64 0, .int .i64 0, .int .u32 0, .int .i64 0, .int .u32 0, .int .i64 0, .int .u32 0, .int .i64 0, .int .u32 0, .bool false] 53)); have hB := B0.out.below hb4; have hB2 := Lib.hid hB; have c0 := hB.cell 0; have c1 := hB.cell 1; have f0 := hB.frozen 0; have f1 := hB.frozen 1; have HM := Lib.hid (HF.out _ (bel2 (bel_new _ _) hb4)); clear hb hb4 hB))
  refine bodyPost_ret (v := .tuple #[.agg #[.int .i64 0, .int .u32 0], .int .i64 2]) ?_ rfl ⟨rfl, ?_⟩
  · rw [results_cell_tmp rfl]
    go_simp
  · exact put_two HM.out hB2.out _ _
set_option maxHeartbeats 4000000 in
theorem make_full (b p t : Nat) (H : Hp) (n : Int) (hd : Bool) (hn : -9223372036854775808 ≤ n ∧ n ≤ 9223372036854775807) (hp : Poss (mk n hd)) (hf : H.t.free = []) (w : World) (h : HW w b p t H) : Calls Try.prog 14 #[.pointer (some ⟨b, 0, none⟩), .int .i64 n, .bool hd] w (MakeP b p t H n hd w) := by
  have e1 : H.mE n hd = 4 := by unfold Hp.mE; rw [if_pos hp, hf]
  have e2 : H.mR n hd = (0, 0) := by unfold Hp.mR; rw [if_pos hp, hf]
  have e3 : H.made n hd = H := by unfold Hp.made; rw [if_pos hp, hf]
  have NW := Lib.hid (fun W => fnew_at n hn hd (mk n hd) 0 (new_okF hp) W)
  have HV : Hid (∀ W, Below w.heap.size w W → Calls Try.prog 35 #[.pointer (some ⟨b, 0, none⟩)] W fun e w' => e = .returned (.bool true) ∧ W = w') := fun W hW => hvalid_yes b p W (h.below hW).c0
  have HC : Hid (∀ W, Below w.heap.size w W → W.cell? ⟨b, 0, none⟩ = some (.pointer (some ⟨p, 0, none⟩)) ∧ W.cell? ⟨p, 0, none⟩ = some (.pointer (some ⟨t, 0, none⟩))) := fun W hW => ⟨(h.below hW).c0, (h.below hW).cp⟩
  have TK : Hid (∀ W, Below w.heap.size w W → Calls Try.prog 37 #[.pointer (some ⟨t, 0, none⟩)] W fun e w' => e = .returned (.tuple #[.agg #[.int .i64 0, .int .u32 0], .int .i64 4]) ∧ Kept (· = t) W w' ∧ MadeV b p t H w w') := fun W hW => by
    refine (take_ok t H.t W (h.tab.below hW)).mono ?_
    rintro e w' ⟨rfl, hT, hk⟩
    have g1 : H.t.tI = 0 := by unfold Tb.tI; rw [hf]
    have g2 : H.t.tG = 0 := by unfold Tb.tG; rw [hf]
    have g3 : H.t.tE = 4 := by unfold Tb.tE; rw [hf]
    have g4 : H.t.take = H.t := by unfold Tb.take; rw [hf]
    rw [g1, g2, g3]
    rw [g4] at hT
    have hw := h.below hW
    have a1 := hw.tb
    have a2 := hw.tp
    refine ⟨rfl, hk, ⟨h.ok, hw.hb.kept hk fun e => a1 e.symm, hT, ?_⟩, ?_⟩
    · obtain ⟨O, q1, q2⟩ := hw.at_
      exact ⟨O, q1.kept hk fun e => a2 e.symm, q2⟩
    · exact (Kept.of_below hW).trans (hk.mono fun _ _ e => .inr e)
  have B0 : Hid (Bk (w.alloc (.cells (rfc (0, 0)) 34)) w.heap.size 34 (rfc (0, 0))) := Bk.new w _ _
  have HT : Hid (t < w.heap.size) := h.tt
  unfold MakeP
  rw [e1, e2, e3]
  show Calls _ _ _ w fun e w' => e = .returned (.tuple #[.agg #[.int .i64 0, .int .u32 0], .int .i64 4]) ∧ _
  simp only [rfc] at B0
  simp only [mk] at NW
  clear h hp e1 e2 e3 hn hf
  go_enter Try.func14, Try.ntmps14
  go_wp2_with (first
    | (go_at_call 35; refine (HV.out _ (bel_new _ _)).mono ?_; rintro e w' ⟨rfl, rfl⟩)
    | (go_at_call 36; refine (NW.out _).mono ?_; rintro e w3 ⟨rfl, hb⟩; have hb4 := bel2 hb (bel_new w3 (.cells #[.int .i64 n, .int .i64 0, .int .u32 0, .int .i64 0, .int .u32 0, .int .i64 0, .int .u32 0, .int .i64 0, .int .u32 0, .bool hd] 53)); have hB := B0.out.below hb4; have hB2 := Lib.hid hB; have HB := Lib.hid (bel2 (bel_new _ _) hb4); obtain ⟨d0, d1⟩ := HC.out _ HB.out; clear hb hb4 hB)
    | (go_at_call 37; refine (TK.out _ HB.out).mono ?_; rintro e w4 ⟨rfl, hk, hM⟩; have hB3 := (hB2.out.kept hk (by have := HT.out; omega)).below (bel_new w4 (.cells #[.int .i64 0, .int .u32 0] 34)); have hB4 := Lib.hid hB3; have c0 := hB3.cell 0; have c1 := hB3.cell 1; have f0 := hB3.frozen 0; have f1 := hB3.frozen 1; have HM : Hid (MadeV b p t H w (w4.alloc (.cells #[.int .i64 0, .int .u32 0] 34))) := ⟨hM.1.below (bel_new _ _), hM.2.alloc _⟩; clear hk hM hB3))
  refine bodyPost_ret (v := .tuple #[.agg #[.int .i64 0, .int .u32 0], .int .i64 4]) ?_ rfl ⟨rfl, ?_⟩
  · rw [results_cell_tmp rfl]
    go_simp
  · exact put_two HM.out hB4.out _ _
theorem MadeV.drew {b p t : Nat} {H : Hp} {w W : World} (h : MadeV b p t H w W) : MadeV b p t H w W.drew := ⟨h.1.same fun _ _ => rfl, h.2.drew⟩
theorem take_head {T : Tb} {i : Nat} {r : List Nat} (h : T.free = i :: r) : T.tI = i ∧ T.tG = T.g i ∧ T.tE = 0 ∧ T.take = T.took i := by
  refine ⟨?_, ?_, ?_, ?_⟩
  · unfold Tb.tI; rw [h]
  · unfold Tb.tG; rw [h]
  · unfold Tb.tE; rw [h]
  · unfold Tb.take; rw [h]
/-- What is there behind Take: the ten cells of the slot, and what a store of an object into them makes. -/
def AfterTake (b p t i : Nat) (H : Hp) (o : Ob) (w W : World) : Prop :=
  (∃ o0, Ten W p (1 + i * 10) o0) ∧ (∀ j, W.frozen? ⟨p, j, none⟩ = false) ∧ MadeV b p t ⟨H.t.took i, putO H.o i o⟩ w (put10 W p (1 + i * 10) o) ∧ w.heap.size ≤ W.heap.size ∧ W.cell? ⟨b, 0, none⟩ = some (.pointer (some ⟨p, 0, none⟩))
theorem after_take {b p t i : Nat} {r : List Nat} {H : Hp} {o : Ob} {w W w4 : World} (h : HW w b p t H) (hf : H.t.free = i :: r) (ho : Poss o) (hb : Below w.heap.size w W) (hT : TabW w4 t (H.t.took i)) (hk : Kept (· = t) W w4) : ∀ W', Below w4.heap.size w4 W' → AfterTake b p t i H o w W' := fun W' hb' => by
  obtain ⟨hi, hs⟩ := Tb.free_lt hf
  have hn := h.ok.t.hi
  have hw := h.below hb
  have a1 := hw.tb
  have a2 := hw.tp
  obtain ⟨O, q1, q2⟩ := hw.at_
  have hB : Bk w4 b 49 #[.pointer (some ⟨p, 0, none⟩)] := hw.hb.kept hk fun e => a1 e.symm
  have hP : Bk w4 p 82 (pcells (.pointer (some ⟨t, 0, none⟩)) O) := q1.kept hk fun e => a2 e.symm
  have hP' := hP.below hb'
  have hpt := h.pt
  have hok : Hp.Ok ⟨H.t.took i, putO H.o i o⟩ := h.ok.took ho
  have k1 : Kept (· = p) W' (put10 W' p (1 + i * 10) o) := kept_put10 (Kept.refl (fun g => g = p) W') (.inr rfl) _ o
  have hpb := h.pb
  have hz := Nat.le_trans hb.size hk.size
  refine ⟨⟨O i, hP'.ten fun k hk => pcells_o _ O (by omega) hk⟩, hP'.frozen, ⟨⟨hok, (hB.below hb').kept k1 fun e => hpb e.symm, (hT.below hb').kept k1 a2, putO O i o, ?_, fun j hj hjs => ?_⟩, ?_⟩, Nat.le_trans hz hb'.size, (hB.below hb').cell 0⟩
  · rw [← pcells_put _ O (by omega) o]; exact hP'.put10 _ o
  · show putO O i o j = putO H.o i o j
    by_cases e : j = i
    · subst e; rw [putO_same, putO_same]
    · rw [putO_other e, putO_other e]
      refine q2 j hj ?_
      have : put H.t.s i 1 j = 1 := hjs
      rwa [put_other e] at this
  · have k0 : Kept (· = t) w w4 := (Kept.of_below hb).trans hk
    exact ((k0.thenB (hb'.mono hz)).mono fun _ _ e => Or.inr e).trans (k1.mono fun _ _ e => Or.inl e)
set_option maxHeartbeats 8000000 in
theorem make_good (b p t i : Nat) (r : List Nat) (H : Hp) (n : Int) (hd : Bool) (hn : -9223372036854775808 ≤ n ∧ n ≤ 9223372036854775807) (hp : Poss (mk n hd)) (hf : H.t.free = i :: r) (w : World) (h : HW w b p t H) : Calls Try.prog 14 #[.pointer (some ⟨b, 0, none⟩), .int .i64 n, .bool hd] w (MakeP b p t H n hd w) := by
  obtain ⟨g1, g2, g3, g4⟩ := take_head hf
  obtain ⟨hi, hs⟩ := Tb.free_lt hf
  have hi2 : (i : Int) < 256 := by have := h.ok.t.hi; omega
  have e1 : H.mE n hd = 0 := by unfold Hp.mE; rw [if_pos hp, hf]
  have e2 : H.mR n hd = ((i : Int), (H.t.g i : Int)) := by unfold Hp.mR; rw [if_pos hp, hf]
  have e3 : H.made n hd = ⟨H.t.took i, putO H.o i (mk n hd)⟩ := by unfold Hp.made; rw [if_pos hp, hf]
  have NW := Lib.hid (fun W => fnew_at n hn hd (mk n hd) 0 (new_okF hp) W)
  have HV : Hid (∀ W, Below w.heap.size w W → Calls Try.prog 35 #[.pointer (some ⟨b, 0, none⟩)] W fun e w' => e = .returned (.bool true) ∧ W = w') := fun W hW => hvalid_yes b p W (h.below hW).c0
  have HC : Hid (∀ W, Below w.heap.size w W → W.cell? ⟨b, 0, none⟩ = some (.pointer (some ⟨p, 0, none⟩)) ∧ W.cell? ⟨p, 0, none⟩ = some (.pointer (some ⟨t, 0, none⟩))) := fun W hW => ⟨(h.below hW).c0, (h.below hW).cp⟩
  have TK : Hid (∀ W, Below w.heap.size w W → Calls Try.prog 37 #[.pointer (some ⟨t, 0, none⟩)] W fun e w' => e = .returned (.tuple #[.agg #[.int .i64 i, .int .u32 (H.t.g i)], .int .i64 0]) ∧ Kept (· = t) W w' ∧ ∀ W', Below w'.heap.size w' W' → AfterTake b p t i H (mk n hd) w W') := fun W hW => by
    refine (take_ok t H.t W (h.tab.below hW)).mono ?_
    rintro e w' ⟨rfl, hT, hk⟩
    rw [g1, g2, g3]
    rw [g4] at hT
    exact ⟨rfl, hk, after_take h hf hp hW hT hk⟩
  have B0 : Hid (Bk (w.alloc (.cells (rfc (0, 0)) 34)) w.heap.size 34 (rfc (0, 0))) := Bk.new w _ _
  have HT : Hid (t < w.heap.size ∧ p < w.heap.size) := ⟨h.tt, h.pt⟩
  unfold MakeP
  rw [e1, e2, e3]
  generalize H.t.g i = gi at *
  show Calls _ _ _ w fun e w' => e = .returned (.tuple #[.agg #[.int .i64 i, .int .u32 gi], .int .i64 0]) ∧ _
  have PT : Hid (∀ W u x, MadeV b p t ⟨H.t.took i, putO H.o i (mk n hd)⟩ w W → Bk W w.heap.size 34 (rfc (0, 0)) → MadeV b p t ⟨H.t.took i, putO H.o i (mk n hd)⟩ w ((W.setCell ⟨w.heap.size, 0, none⟩ u).setCell ⟨w.heap.size, 1, none⟩ x)) := fun W u x hm hB => put_two hm hB u x
  simp only [rfc] at B0
  simp only [mk] at NW
  clear h hp e1 e2 e3 hn hf g1 g2 g3 g4 hi hs
  go_enter Try.func14, Try.ntmps14
  go_upto_region 9 with (first
    | (go_at_call 35; refine (HV.out _ (bel_new _ _)).mono ?_; rintro e w' ⟨rfl, rfl⟩)
    | (go_at_call 36; refine (NW.out _).mono ?_; rintro e w3 ⟨rfl, hb⟩; have hb4 := bel2 hb (bel_new w3 (.cells #[.int .i64 n, .int .i64 0, .int .u32 0, .int .i64 0, .int .u32 0, .int .i64 0, .int .u32 0, .int .i64 0, .int .u32 0, .bool hd] 53)); have hB := B0.out.below hb4; have hB2 := Lib.hid hB; have HB := Lib.hid (bel2 (bel_new _ _) hb4); obtain ⟨d0, d1⟩ := HC.out _ HB.out; have HS3 := Lib.hid hb.size; have hO : Bk (w3.alloc (.cells #[.int .i64 n, .int .i64 0, .int .u32 0, .int .i64 0, .int .u32 0, .int .i64 0, .int .u32 0, .int .i64 0, .int .u32 0, .bool hd] 53)) w3.heap.size 53 (obc (mk n hd)) := Bk.new w3 _ _; have HO := Lib.hid hO; clear hb hb4 hB hO)
    | (go_at_call 37; refine (TK.out _ HB.out).mono ?_; rintro e w4 ⟨rfl, hk, hA⟩; have hBn := bel_new w4 (.cells #[.int .i64 i, .int .u32 gi] 34); have hB4 := Lib.hid ((hB2.out.kept hk (by have := HT.out.1; omega)).below hBn); have HO4 := Lib.hid ((HO.out.kept hk (by have := HT.out.1; have := HS3.out; simp at this; omega)).below hBn); have HA5 := Lib.hid (hA _ hBn); have HZ4 := Lib.hid (Nat.lt_of_lt_of_le hB2.out.lt hk.size); have HN4 : Hid (Bk (w4.alloc (.cells (rfc ((i : Int), (gi : Int))) 34)) w4.heap.size 34 (rfc ((i : Int), (gi : Int)))) := Bk.new w4 _ _; clear hk hA hBn))
  simp only [rfc] at HN4
  generalize (w4.alloc (.cells #[.int .i64 i, .int .u32 gi] 34)) = w5 at *
  obtain ⟨⟨o0, c0, c1, c2, c3, c4, c5, c6, c7, c8, c9⟩, hfz, hM, hsz, cb⟩ := HA5.out
  have n0 := HN4.out.cell 0
  have n1 := HN4.out.cell 1
  simp only [List.getElem?_toArray, List.getElem?_cons_zero, List.getElem?_cons_succ] at n0 n1
  obtain ⟨m0, m1, m2, m3, m4, m5, m6, m7, m8, m9⟩ := HO4.out.ob
  simp only [mk] at m0 m1 m2 m3 m4 m5 m6 m7 m8 m9
  have x0 := hfz (1 + i * 10)
  have x1 := hfz (1 + i * 10 + 1)
  have x2 := hfz (1 + i * 10 + 2)
  have x3 := hfz (1 + i * 10 + 3)
  have x4 := hfz (1 + i * 10 + 4)
  have x5 := hfz (1 + i * 10 + 5)
  have x6 := hfz (1 + i * 10 + 6)
  have x7 := hfz (1 + i * 10 + 7)
  have x8 := hfz (1 + i * 10 + 8)
  have x9 := hfz (1 + i * 10 + 9)
  have KK : Kept (· = p) w5 (put10 w5 p (1 + i * 10) (mk n hd)).drew := (kept_put10 (Kept.refl (fun g => g = p) w5) (.inr rfl) _ _).drew
  have HM : Hid (MadeV b p t ⟨H.t.took i, putO H.o i (mk n hd)⟩ w (put10 w5 p (1 + i * 10) (mk n hd)).drew) := hM.drew
  have hpw := HT.out.2
  have k6 := hB4.out.kept KK (by omega)
  have K6 := Lib.hid k6
  have l6 := HN4.out.kept KK (by have := HZ4.out; omega)
  obtain ⟨y0, y1⟩ := And.intro (k6.cell 0) (k6.cell 1)
  obtain ⟨y2, y3⟩ := And.intro (k6.frozen 0) (k6.frozen 1)
  obtain ⟨y4, y5⟩ := And.intro (l6.cell 0) (l6.cell 1)
  have HW6 : Hid (∃ W6, (put10 w5 p (1 + i * 10) (mk n hd)).drew = W6) := ⟨_, rfl⟩
  obtain ⟨W6, hW6⟩ := HW6.out
  rw [hW6] at y0 y1 y2 y3 y4 y5 K6 HM
  have HE := Lib.hid hW6
  unfold put10 at HE
  simp only [mk] at HE
  simp only [List.getElem?_toArray, List.getElem?_cons_zero, List.getElem?_cons_succ] at y0 y1 y4 y5
  clear hfz hM hsz KK k6 l6 hW6
  go_region
  rw [HE.out]
  clear HE
  go_wp2
  refine bodyPost_ret (v := .tuple #[.agg #[.int .i64 i, .int .u32 gi], .int .i64 0]) ?_ rfl ⟨rfl, ?_⟩
  · rw [results_cell_tmp rfl]
    go_simp
  · exact PT.out _ _ _ HM.out K6.out
theorem hmake_ok (b p t : Nat) (H : Hp) (n : Int) (hd : Bool) (hn : -9223372036854775808 ≤ n ∧ n ≤ 9223372036854775807) (w : World) (h : HW w b p t H) : Calls Try.prog 14 #[.pointer (some ⟨b, 0, none⟩), .int .i64 n, .bool hd] w (MakeP b p t H n hd w) := by
  by_cases hp : Poss (mk n hd)
  · cases hf : H.t.free with
    | nil => exact make_full b p t H n hd hn hp hf w h
    | cons i r => exact make_good b p t i r H n hd hn hp hf w h
  · exact make_bad b p t H n hd hn hp w h
end Go.Proofs.Ytfnhkapbfgofkaa
