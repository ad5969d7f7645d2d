/- The contract of the program's read. -/
import Derived.Test.YtmbkhkijmfogcaaDoorNp
namespace Go.Proofs.YtmbkhkijmfogcaaDoor
open Go.RowKit

theorem splitB_le (sep : ByteArray) : ∀ (k : Nat) (s : ByteArray), ∀ x ∈ Lib.splitB sep 0 k s, x.size ≤ s.size
  | 0, s, x, h => by
    rw [Lib.splitB_zero, List.mem_singleton] at h
    rw [h]
    exact Nat.le_refl _
  | k + 1, s, x, h => by
    unfold Lib.splitB at h
    split at h
    · rw [List.mem_singleton] at h
      rw [h]
      exact Nat.le_refl _
    · rw [List.mem_cons] at h
      rcases h with rfl | h
      · rw [ByteArray.size_extract]; omega
      · have := splitB_le sep k _ x h
        rw [ByteArray.size_extract] at this
        omega
theorem splitB_pos (sep : ByteArray) (k : Nat) (s : ByteArray) : 1 ≤ (Lib.splitB sep 0 k s).length := by
  cases k with
  | zero => rw [Lib.splitB_zero]; simp
  | succ k =>
    unfold Lib.splitB
    split <;> simp
theorem obj_nosp : ∀ x ∈ objW, x ≠ 32 := by decide
theorem splitB_obj (s : ByteArray) (p : Ob) (hp : Poss p) (hh : p.h = false) (hs : s.data.toList = otxt p) : (Lib.splitB ⟨#[32]⟩ 0 (min 5 (s.size + 1) - 1) s).map (·.data.toList) = objW :: words p := by
  have hl := otxt_len hp
  have hz := Lib.size_eq s
  rw [hs] at hz
  have e : min 5 (s.size + 1) - 1 = 4 := by omega
  rw [e, Lib.splitB_data, hs]
  unfold otxt
  rw [hh]
  refine splitK_words (words p) objW 4 obj_nosp (words_nosp p) ?_
  rw [words_len hp]
  have := hp.n4
  omega

/-- What read comes to: some object, and the one whose text was read, if there is one. -/
def ReadV (l : List UInt8) (o : Ob) : Prop := Rg o ∧ ∀ p, Poss p → l = otxt p → o = p
theorem handle_poss {p : Ob} (hp : Poss p) (hh : p.h = true) : p = ⟨0, (0, 0), (0, 0), (0, 0), (0, 0), true⟩ := by
  have hn := hp.hh hh
  exact Ob.same hn hh fun j hj => by
    rw [hp.em j hj (by omega)]
    match j with
    | 0 => rfl
    | 1 => rfl
    | 2 => rfl
    | _ + 3 => rfl
theorem otxt_handle {p : Ob} (h : otxt p = hndW) : p.h = true := by
  cases hh : p.h with
  | true => rfl
  | false =>
    unfold otxt at h
    rw [hh] at h
    simp [objW, hndW] at h
theorem otxt_object {p : Ob} (h : otxt p ≠ hndW) : p.h = false := by
  cases hh : p.h with
  | false => rfl
  | true => exact absurd (by unfold otxt; rw [hh]; rfl) h

set_option maxHeartbeats 1000000 in
theorem read_handle (w : World) : Calls Tryd.prog 35 #[.string ⟨#[104, 97, 110, 100, 108, 101]⟩] w fun e w' => ∃ o : Ob, ReadV hndW o ∧ e = .returned (obv o) ∧ Below w.heap.size w w' := by
  go_enter Tryd.func35, Tryd.ntmps35
  go_wp2
  refine bodyPost_ret (v := .agg #[.int .i64 0, .int .i64 0, .int .u32 0, .int .i64 0, .int .u32 0, .int .i64 0, .int .u32 0, .int .i64 0, .int .u32 0, .bool true]) ?_ rfl ⟨⟨0, (0, 0), (0, 0), (0, 0), (0, 0), true⟩, ?_, rfl, ?_⟩
  · simp [results, Tryd.f35, go_sem]
  · refine ⟨⟨by decide, by decide, fun j _ => ?_⟩, fun p hp h => (handle_poss hp (otxt_handle h.symm)).symm⟩
    match j with
    | 0 => exact rfok_none.rr
    | 1 => exact rfok_none.rr
    | 2 => exact rfok_none.rr
    | _ + 3 => exact rfok_none.rr
  · exact (Below.refl _ _).alloc (Nat.le_refl _) _

/-- While read's loop runs: k words have been read. -/
def RdI (P : List ByteArray) (k : Nat) (q : Ob) : Prop :=
  q.n + 1 = P.length ∧ q.h = false ∧ (∀ j, j < k → ∃ x, P[j + 1]? = some x ∧ RfV x.data.toList (q.fld j)) ∧ ∀ j, k ≤ j → j < 4 → q.fld j = (0, 0)
theorem RdI.succ {P : List ByteArray} {k : Nat} {q : Ob} (h : RdI P k q) (hk : k < 4) {x : ByteArray} (hx : P[k + 1]? = some x) {r : Rf} (hr : RfV x.data.toList r) : RdI P (k + 1) (q.upd r k) := by
  obtain ⟨h1, h2, h3, h4⟩ := h
  refine ⟨by rw [(upd_n _ _ _).1]; exact h1, by rw [(upd_n _ _ _).2]; exact h2, fun j hj => ?_, fun j hj hj4 => ?_⟩
  · by_cases e : j = k
    · subst e
      exact ⟨x, hx, by rw [upd_same]; exact hr⟩
    · obtain ⟨y, hy, hv⟩ := h3 j (by omega)
      exact ⟨y, hy, by rw [upd_ne _ _ _ _ hk (by omega) e]; exact hv⟩
  · rw [upd_ne _ _ _ _ hk hj4 (by omega)]
    exact h4 j (by omega) hj4
theorem RdI.read {P : List ByteArray} {k : Nat} {q : Ob} (h : RdI P k q) (hk : k + 1 = P.length) (h5 : P.length ≤ 5) {l : List UInt8}
    (hP : ∀ p, Poss p → l = otxt p → P.map (·.data.toList) = objW :: words p) (hne : l ≠ hndW) : ReadV l q := by
  obtain ⟨h1, h2, h3, h4⟩ := h
  refine ⟨⟨by omega, by omega, fun j hj => ?_⟩, fun p hp hl => ?_⟩
  · by_cases e : j < k
    · obtain ⟨x, _, hv⟩ := h3 j e
      exact hv.1
    · rw [h4 j (by omega) hj]
      exact rfok_none.rr
  · have hm := hP p hp hl
    have hlen := congrArg List.length hm
    rw [List.length_map, List.length_cons, words_len hp] at hlen
    have hn0 := hp.n0
    have hph : p.h = false := otxt_object (by rw [← hl]; exact hne)
    refine Ob.same (by omega) (by rw [h2, hph]) fun j hj => ?_
    by_cases e : j < k
    · obtain ⟨x, hx, hv⟩ := h3 j e
      refine hv.2 _ (hp.ok j hj) ?_
      have h5 := congrArg (·[j + 1]?) hm
      simp only [List.getElem?_map, hx, Option.map_some, List.getElem?_cons_succ] at h5
      rw [words_at (by omega) hj] at h5
      exact Option.some.inj h5
    · rw [h4 j (by omega) hj, hp.em j hj (by omega)]

theorem cellsOf_at {P : List ByteArray} {C j : Nat} {x : ByteArray} (h : P[j]? = some x) : (Lib.cellsOf P C)[j]? = some (.string x) := by
  unfold Lib.cellsOf
  have hj : j < P.length := (List.getElem?_eq_some_iff.1 h).1
  rw [List.getElem?_toArray, List.getElem?_append_left (by rw [List.length_map]; exact hj), List.getElem?_map, h]
  rfl
set_option maxRecDepth 100000 in
set_option maxHeartbeats 4000000 in
theorem read_split (s : ByteArray) (hs : s.size ≤ 100000) (hne : s.data.toList ≠ hndW) (w : World) (he : Env w) :
    Calls Tryd.prog 35 #[.string s] w fun e w' => ∃ o : Ob, ReadV s.data.toList o ∧ e = .returned (obv o) ∧ Below w.heap.size w w' := by
  have heq : (s.toList == [104, 97, 110, 100, 108, 101]) = false := by
    rw [beq_eq_false_iff_ne, ByteArray.toList_eq]
    exact hne
  obtain ⟨P, hP⟩ : ∃ P, Lib.splitB ⟨#[32]⟩ 0 (min 5 (s.size + 1) - 1) s = P := ⟨_, rfl⟩
  obtain ⟨C, hC⟩ : ∃ C, min 5 (s.size + 1) = C := ⟨_, rfl⟩
  have hP1 : 1 ≤ P.length := by rw [← hP]; exact splitB_pos _ _ _
  have hP5 : P.length ≤ C := by rw [← hP, ← hC]; have := Lib.splitB_length_le ⟨#[32]⟩ 0 (min 5 (s.size + 1) - 1) s; omega
  have hC5 : C ≤ 5 := by omega
  have HPS : Hid (∀ x ∈ P, x.size ≤ 100000) := fun x hx => by rw [← hP] at hx; have := splitB_le _ _ _ x hx; omega
  have HPP : Hid (∀ p, Poss p → s.data.toList = otxt p → P.map (·.data.toList) = objW :: words p) := fun p hp hl => by
    rw [← hP]; exact splitB_obj s p hp (otxt_object (by rw [← hl]; exact hne)) hl
  have HSPL : Hid (∀ W, Env W → Calls Tryd.prog 45 #[.string s, .string ⟨#[32]⟩, .int .i64 5] W fun e w' => e = .returned (.slice (some ⟨W.heap.size, 0, none⟩) P.length C) ∧ W.alloc (.cells (Lib.cellsOf P C) 9) = w') := fun W hW => by
    obtain ⟨M, hM⟩ := hW.ml
    refine (Tryd.strings_SplitN s ⟨#[32]⟩ 5 M W (by omega) hM (by decide) (by decide) (by decide)).mono ?_
    rintro e w' ⟨rfl, rfl⟩
    rw [hP, hC]
    exact ⟨rfl, rfl⟩
  obtain ⟨M, hM⟩ : ∃ M, P.length = M + 1 := ⟨P.length - 1, by omega⟩
  rw [hM] at hP5 HSPL
  have HM := Lib.hid hM
  have HNE := Lib.hid hne
  obtain ⟨w1, hw1⟩ : ∃ w1, w.alloc (.cells (obc ob0) 27) = w1 := ⟨_, rfl⟩
  have hb1 : Bk w1 w.heap.size 27 (obc ob0) := by rw [← hw1]; exact Bk.new _ _ _
  have hB : Below w.heap.size w w1 := by rw [← hw1]; exact (Below.refl _ w).alloc (Nat.le_refl _) _
  have hsz1 : w1.heap.size = w.heap.size + 1 := by rw [← hw1, World.size_alloc]
  have HW1 := Lib.hid hw1
  have HB := Lib.hid (And.intro hb1 hB)
  have HE := Lib.hid (he.below hB)
  have he0 := Lib.hid he
  simp only [obc, ob0] at HW1
  clear hw1 hb1 hB he hs hP hC hP1 hM hne
  go_enter Tryd.func35, Tryd.ntmps35
  go_wp2_with fail
  rw [HW1.out]
  refine (HSPL.out _ HE.out).mono ?_
  rintro e w2 ⟨rfl, hw2⟩
  have hb2 : Bk w2 w1.heap.size 9 (Lib.cellsOf P C) := by rw [← hw2]; exact Bk.new _ _ _
  have hB2 : Below w1.heap.size w1 w2 := by rw [← hw2]; exact (Below.refl _ w1).alloc (Nat.le_refl _) _
  have hsz2 : w2.heap.size = w1.heap.size + 1 := by rw [← hw2, World.size_alloc]
  have HB2 := Lib.hid (And.intro hb2 hB2)
  clear hw2 hb2 hB2
  go_upto_region 4 with fail
  have hq1 : (((M + 1 : Nat) : Int) - 1) = (M : Int) := by omega
  have hq2 : IntKind.i64.wrap ((M + 1 : Nat) : Int) = ((M + 1 : Nat) : Int) := IntWalk.i64_in _ (by omega)
  have hq3 : IntKind.i64.wrap (M : Int) = (M : Int) := IntWalk.i64_in _ (by omega)
  go_upto_region 5 with fail
  obtain ⟨w3, hw3⟩ : ∃ w3, w2.alloc (.cells #[.int .i64 M, .int .i64 0, .int .u32 0, .int .i64 0, .int .u32 0, .int .i64 0, .int .u32 0, .int .i64 0, .int .u32 0, .bool false] 27) = w3 := ⟨_, rfl⟩
  have hb3 : Bk w3 w2.heap.size 27 (obc (mk M false)) := by rw [← hw3]; exact Bk.new _ _ _
  have hB3 : Below w2.heap.size w2 w3 := by rw [← hw3]; exact (Below.refl _ w2).alloc (Nat.le_refl _) _
  rw [hw3]
  have hb2 := HB2.out.1
  rw [hsz1] at hb2
  have hsz2' : w2.heap.size = w.heap.size + 1 + 1 := by omega
  rw [hsz2'] at hb3
  have HI : Hid (Bk w3 (w.heap.size + 1 + 1) 27 (obc (mk M false)) ∧ Bk w3 w.heap.size 27 (obc ob0) ∧ Bk w3 (w.heap.size + 1) 9 (Lib.cellsOf P C) ∧ Env w3 ∧ Below w.heap.size w w3) :=
    ⟨hb3, (HB.out.1.below HB2.out.2).below hB3, hb2.below hB3, (HE.out.below HB2.out.2).below hB3, bel2 (bel2 HB.out.2 HB2.out.2) hB3⟩
  have HR0 : Hid (RdI P 0 (mk M false)) := ⟨by rw [HM.out]; rfl, rfl, fun j hj => by omega, fun j _ _ => mk_fld _ _ j⟩
  clear hw3 hb3 hB3 hb2 hsz2' hsz2
  go_wp2
  all_goals
    go_loopw [19] (fun i wr => ∃ (k : Nat) (q : Ob), k ≤ M ∧ i = .int .i64 k ∧ Hid (RdI P k q) ∧ Hid (Bk wr (w.heap.size + 1 + 1) 27 (obc q) ∧ Bk wr w.heap.size 27 (obc ob0) ∧ Bk wr (w.heap.size + 1) 9 (Lib.cellsOf P C) ∧ Env wr ∧ Below w.heap.size w wr)) (fun i _ => M - (intOf i).toNat)
    case atStart => exact ⟨0, _, by omega, rfl, HR0.out, HI.out⟩
    case round =>
      obtain ⟨k, q, hk, rfl, HQ, HJ⟩ := hrel
      obtain ⟨j1, j2, j3, j4, j5⟩ := HJ.out
      by_cases hlt : k < M
      · first
        | (exfalso; omega)
        | (obtain ⟨x, hx⟩ : ∃ x, P[k + 1]? = some x := ⟨_, List.getElem?_eq_getElem (by rw [HM.out]; omega)⟩
           have hcx := (j3.cell (k + 1)).trans (cellsOf_at hx)
           rw [show k + 1 = 1 + k by omega] at hcx
           have hk4 : k < 4 := by omega
           have HRF := Lib.hid (readRef_any x (HPS.out x (List.mem_of_getElem? hx)))
           have HX := Lib.hid hx
           have hf0 := j1.frozen (1 + k * 2)
           have hf1 := j1.frozen (1 + k * 2 + 1)
           have hc0 := (j1.cell (1 + k * 2)).trans (obc_s q k hk4)
           have hc1 := (j1.cell (1 + k * 2 + 1)).trans (obc_g q k hk4)
           have hl1 := j1.lt
           have hl3 := j3.lt
           have HKC := Lib.hid (fun w5 (hb5 : Below wr.heap.size wr w5) => And.intro (cell_stays hb5 hc0) (cell_stays hb5 hc1))
           clear j1 j2 j3 j4 j5 hx hf0 hf1 hc0 hc1
           go_wp2_with fail
           refine (HRF.out _ HJ.out.2.2.2.1).mono ?_
           rintro e w5 ⟨r, hr, rfl, hb5⟩
           obtain ⟨c0, c1⟩ := HKC.out w5 hb5
           obtain ⟨j1, j2, j3, j4, j5⟩ := HJ.out
           have hf0 := (j1.below hb5).frozen (1 + k * 2)
           have hf1 := (j1.below hb5).frozen (1 + k * 2 + 1)
           have HI2 : Hid (RdI P (k + 1) (q.upd r k) ∧ ∀ W', W' = (w5.setCell ⟨w.heap.size + 1 + 1, 1 + k * 2, none⟩ (.int .i64 r.1)).setCell ⟨w.heap.size + 1 + 1, 1 + k * 2 + 1, none⟩ (.int .u32 r.2) →
               (Bk W' (w.heap.size + 1 + 1) 27 (obc (q.upd r k)) ∧ Bk W' w.heap.size 27 (obc ob0) ∧ Bk W' (w.heap.size + 1) 9 (Lib.cellsOf P C) ∧ Env W' ∧ Below w.heap.size w W')) := by
             refine ⟨HQ.out.succ hk4 HX.out hr, fun W' hW' => ?_⟩
             subst hW'
             have hbb : Below w.heap.size w ((w5.setCell ⟨w.heap.size + 1 + 1, 1 + k * 2, none⟩ (.int .i64 r.1)).setCell ⟨w.heap.size + 1 + 1, 1 + k * 2 + 1, none⟩ (.int .u32 r.2)) :=
               ((bel2 j5 hb5).setCell (p := ⟨w.heap.size + 1 + 1, 1 + k * 2, none⟩) (by show w.heap.size ≤ w.heap.size + 1 + 1; omega) _).setCell (p := ⟨w.heap.size + 1 + 1, 1 + k * 2 + 1, none⟩) (by show w.heap.size ≤ w.heap.size + 1 + 1; omega) _
             exact ⟨put_fld (j1.below hb5) r hk4, ((j2.below hb5).other (by omega)).other (by omega), ((j3.below hb5).other (by omega)).other (by omega), he0.out.below hbb, hbb⟩
           clear j1 j2 j3 j4 j5 hr hb5
           go_wp2
           go_roundw
           case rel => exact ⟨k + 1, _, by omega, by go_num, HI2.out.1, HI2.out.2 _ rfl⟩
           case measure => simp [intOf]; omega)
      · obtain rfl : k = M := by omega
        have HV : Hid (ReadV s.data.toList q) := HQ.out.read HM.out.symm (by rw [HM.out]; omega) HPP.out HNE.out
        obtain ⟨a0, a1, a2, a3, a4, a5, a6, a7, a8, a9⟩ := j2.ob
        obtain ⟨f0, f1, f2, f3, f4, f5, f6, f7, f8, f9⟩ := j2.ofz
        obtain ⟨b0, b1, b2, b3, b4, b5, b6, b7, b8, b9⟩ := j1.ob
        simp only [ob0] at a0 a1 a2 a3 a4 a5 a6 a7 a8 a9
        have hl1 := j1.lt
        clear j1 j2 j3 j4 j5
        go_wp2
        refine bodyPost_ret (v := .agg #[.int .i64 q.n, .int .i64 q.a.1, .int .u32 q.a.2, .int .i64 q.b.1, .int .u32 q.b.2, .int .i64 q.c.1, .int .u32 q.c.2, .int .i64 q.d.1, .int .u32 q.d.2, .bool q.h]) ?_ rfl ⟨q, HV.out, rfl, ?_⟩
        · simp [results, Tryd.f35, go_sem, *]
        · exact bel10 HJ.out.2.2.2.2 (Nat.le_refl _) _ _ _ _ _ _ _ _ _ _
theorem read_any (s : ByteArray) (hs : s.size ≤ 100000) (w : World) (he : Env w) :
    Calls Tryd.prog 35 #[.string s] w fun e w' => ∃ o : Ob, ReadV s.data.toList o ∧ e = .returned (obv o) ∧ Below w.heap.size w w' := by
  by_cases h : s.data.toList = hndW
  · have e : s = ⟨#[104, 97, 110, 100, 108, 101]⟩ := str_eq h
    subst e
    exact read_handle w
  · exact read_split s hs h w he
end Go.Proofs.YtmbkhkijmfogcaaDoor
