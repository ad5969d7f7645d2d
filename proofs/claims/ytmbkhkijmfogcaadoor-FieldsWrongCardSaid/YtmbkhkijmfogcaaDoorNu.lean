/- The contract of the document's Parse of objects. -/
import Derived.Test.YtmbkhkijmfogcaaDoorNt
namespace Go.Proofs.YtmbkhkijmfogcaaDoor
open Go.RowKit

def strLen : Value → Nat
  | .string R => R.size
  | _ => 0
theorem ext_mid (R : ByteArray) (e : Nat) : (R.extract 1 e).data.toList = (R.data.toList.drop 1).take (e - 1) := by
  rw [Lib.extract_data]
/-- The rest, cut behind its first word. -/
theorem rest_cut {R : ByteArray} {e : Nat} (h0 : 0 < R.size) (hc : R[0] = 32) (h1 : 1 ≤ e) (_ : e ≤ R.size) : R.data.toList = 32 :: ((R.data.toList.drop 1).take (e - 1) ++ R.data.toList.drop e) := by
  have hl := Lib.size_eq R
  have h3 : 0 < R.data.toList.length := by omega
  have h4 : R.data.toList[0] = 32 := hc
  have h5 : R.data.toList = R.data.toList[0] :: R.data.toList.drop 1 := by
    conv => lhs; rw [← List.drop_zero (l := R.data.toList), List.drop_eq_getElem_cons h3]
  have h6 : R.data.toList.drop e = (R.data.toList.drop 1).drop (e - 1) := by rw [List.drop_drop]; congr 1; omega
  rw [h6, List.take_append_drop, ← h4, ← h5]
theorem mid_snoc {R : ByteArray} {e : Nat} (h1 : 1 ≤ e) (h2 : e < R.size) : (R.data.toList.drop 1).take (e + 1 - 1) = (R.data.toList.drop 1).take (e - 1) ++ [R[e]] := by
  have hl := Lib.size_eq R
  have e1 : e + 1 - 1 = (e - 1) + 1 := by omega
  have h3 : e - 1 < (R.data.toList.drop 1).length := by rw [List.length_drop]; omega
  rw [e1, List.take_succ_eq_append_getElem h3]
  congr 2
  rw [List.getElem_drop]
  show R.data.toList[1 + (e - 1)] = R.data.toList[e]
  congr 1
  omega
theorem drop_spb {R : ByteArray} {e : Nat} (h : e = R.size ∨ ∃ h : e < R.size, R[e] = 32) : SpB (R.data.toList.drop e) := by
  have hl := Lib.size_eq R
  rcases h with h | ⟨h, hc⟩
  · exact .inl (List.drop_eq_nil_of_le (by omega))
  · have h3 : e < R.data.toList.length := by omega
    have h4 : R.data.toList[e] = 32 := hc
    exact .inr ⟨_, by rw [List.drop_eq_getElem_cons h3, h4]⟩
theorem byte_eq {c d : UInt8} (h : c = d) : ((c.toNat : Int) == (d.toNat : Int)) = true := by rw [h]; simp
theorem byte_ne {c d : UInt8} (h : c ≠ d) : ((c.toNat : Int) == (d.toNat : Int)) = false := by
  rw [beq_eq_false_iff_ne]
  intro e
  exact h (UInt8.toNat_inj.1 (by omega))
theorem byte_eq2 {c d : UInt8} (h : c = d) : ((c.toNat : Int) != (d.toNat : Int)) = false := by rw [bne, byte_eq h]; rfl
theorem byte_ne2 {c d : UInt8} (h : c ≠ d) : ((c.toNat : Int) != (d.toNat : Int)) = true := by rw [bne, byte_ne h]; rfl
theorem ext_none (R : ByteArray) : R.extract R.size R.size = ByteArray.empty := by
  apply ByteArray.ext
  apply Array.toList_inj.1
  rw [ext_drop, List.drop_eq_nil_of_le (by rw [← Lib.size_eq]; exact Nat.le_refl _)]
  rfl
theorem put_push {W : World} {b : Nat} {t : TypeId} {q : Ob} {k : Nat} (hk4 : k < 4) (r : Rf) (h : Bk W b t (obc q)) :
    Bk (((W.setCell ⟨b, 1 + k * 2, none⟩ (.int .i64 r.1)).setCell ⟨b, 1 + k * 2 + 1, none⟩ (.int .u32 r.2)).setCell ⟨b, 0, none⟩ (.int .i64 ((k : Int) + 1))) b t (obc (q.push k r)) := by
  have h2 := (put_fld h r hk4).put 0 (.int .i64 ((k : Int) + 1))
  have e : (obc (q.upd r k)).setIfInBounds 0 (.int .i64 ((k : Int) + 1)) = obc (q.push k r) := rfl
  rw [e] at h2
  exact h2

set_option maxRecDepth 100000 in
set_option maxHeartbeats 4000000 in
theorem dparse_loop (s : ByteArray) (hs : s.size ≤ 100000) (h6 : 6 ≤ s.size) (hne : s.data.toList ≠ hndW) (hp : s.data.toList.take 6 = objW) (w : World) :
    Calls Tryd.prog 26 #[.string s] w fun e w' => e = .returned (.tuple #[obv (parseR s.data.toList).1, .int .i64 (parseR s.data.toList).2]) ∧ Below w.heap.size w w' := by
  have heq : (s.toList == [104, 97, 110, 100, 108, 101]) = false := by
    rw [beq_eq_false_iff_ne, ByteArray.toList_eq]
    exact hne
  have hpre : ((s.extract 0 6).toList == [111, 98, 106, 101, 99, 116]) = true := by
    rw [beq_iff_eq, ByteArray.toList_eq, ext_take]
    exact hp
  have HST : Hid (Pst s.data.toList ob0 (s.extract 6 s.size).data.toList) := by
    refine Pst.begin ?_
    rw [ext_drop, ← hp, List.take_append_drop]
  have hrs : (s.extract 6 s.size).size ≤ 100000 := by rw [ByteArray.size_extract]; omega
  obtain ⟨w1, hw1⟩ : ∃ w1, (w.alloc (.cells (obc ob0) 31)).alloc (.cells (obc ob0) 31) = w1 := ⟨_, rfl⟩
  obtain ⟨k1, k2, k3, k4⟩ := two_boxes w _ _ _ _ hw1
  have HW1 := Lib.hid hw1
  have HI : Hid (Bk w1 (w.heap.size + 1) 31 (obc ob0) ∧ Bk w1 w.heap.size 31 (obc ob0) ∧ Below w.heap.size w w1) := ⟨k2, k1, k4⟩
  simp only [obc, ob0] at HW1
  clear hw1 k1 k2 k4 hne hp
  go_enter Tryd.func26, Tryd.ntmps26
  go_upto_region 6 with fail
  rw [HW1.out]
  go_wp2
  generalize s.extract 6 s.size = R0 at *
  go_loopw [5] (fun v wr => ∃ (R : ByteArray) (q : Ob) (k : Nat), v = .string R ∧ R.size ≤ 100000 ∧ k ≤ 4 ∧ Hid (q.n = k) ∧ Hid (Pst s.data.toList q R.data.toList) ∧ Hid (Bk wr (w.heap.size + 1) 31 (obc q) ∧ Bk wr w.heap.size 31 (obc ob0) ∧ Below w.heap.size w wr)) (fun v _ => strLen v)
  case atStart => exact ⟨R0, ob0, 0, rfl, hrs, by omega, rfl, HST.out, HI.out⟩
  case round =>
    obtain ⟨R, q, k, rfl, hR, hk, HK, HQ, HJ⟩ := hrel
    obtain ⟨j1, j2, j3⟩ := HJ.out
    have hb0 := j1.ob.1
    rw [HK.out] at hb0
    have hlb := j1.lt
    by_cases hz : R.size = 0
    · have e0 : R = ⟨#[]⟩ := by
        apply str_eq
        exact List.eq_nil_of_length_eq_zero (by rw [← Lib.size_eq]; exact hz)
      subst e0
      have HPR : Hid (parseR s.data.toList = (q, 0)) := HQ.out.done
      obtain ⟨b0, b1, b2, b3, b4, b5, b6, b7, b8, b9⟩ := j1.ob
      obtain ⟨a0, a1, a2, a3, a4, a5, a6, a7, a8, a9⟩ := j2.ob
      obtain ⟨f0, f1, f2, f3, f4, f5, f6, f7, f8, f9⟩ := j2.ofz
      simp only [ob0] at a0 a1 a2 a3 a4 a5 a6 a7 a8 a9
      clear j1 j2 j3 hb0 hz
      go_wp2
      refine bodyPost_ret (v := .tuple #[.agg #[.int .i64 q.n, .int .i64 q.a.1, .int .u32 q.a.2, .int .i64 q.b.1, .int .u32 q.b.2, .int .i64 q.c.1, .int .u32 q.c.2, .int .i64 q.d.1, .int .u32 q.d.2, .bool q.h], .int .i64 0]) ?_ rfl ⟨by rw [HPR.out]; rfl, ?_⟩
      · simp [results, Tryd.f26, go_sem, *]
      · exact bel10 HJ.out.2.2 (Nat.le_refl _) _ _ _ _ _ _ _ _ _ _
    · have hz1 : 0 < R.size := by omega
      have hRne : (R.toList == []) = false := by
        rw [beq_eq_false_iff_ne, ByteArray.toList_eq]
        intro e
        exact hz (by rw [Lib.size_eq, e]; rfl)
      have HCONS : Hid (R.data.toList = R[0] :: R.data.toList.drop 1) := by
        have hl := Lib.size_eq R
        have h3 : 0 < R.data.toList.length := by omega
        unfold Hid
        conv => lhs; rw [← List.drop_zero (l := R.data.toList), List.drop_eq_getElem_cons h3]
        rfl
      by_cases hsp : R[0] = 32
      · have hsp2 : ((R[0].toNat : Int) != 32) = false := byte_eq2 hsp
        have HSP := Lib.hid hsp
        by_cases hk4 : k = 4
        · subst hk4
          have HPR : Hid (parseR s.data.toList = (ob0, 9)) := parse_bad' (by
            have := HQ.out
            rw [HCONS.out] at this
            exact this.full HK.out)
          obtain ⟨a0, a1, a2, a3, a4, a5, a6, a7, a8, a9⟩ := j2.ob
          obtain ⟨f0, f1, f2, f3, f4, f5, f6, f7, f8, f9⟩ := j2.ofz
          simp only [ob0] at a0 a1 a2 a3 a4 a5 a6 a7 a8 a9
          clear j1 j2 j3 hsp hz
          go_wp2
          refine bodyPost_ret (v := .tuple #[.agg #[.int .i64 0, .int .i64 0, .int .u32 0, .int .i64 0, .int .u32 0, .int .i64 0, .int .u32 0, .int .i64 0, .int .u32 0, .bool false], .int .i64 9]) ?_ rfl ⟨by rw [HPR.out]; rfl, ?_⟩
          · simp [results, Tryd.f26, go_sem, *]
          · exact bel10 HJ.out.2.2 (Nat.le_refl _) _ _ _ _ _ _ _ _ _ _
        · have hk3 : k < 4 := by omega
          have hk4b : ((k : Int) == 4) = false := beq_eq_false_iff_ne.2 (by omega)
          clear j1 j2 j3 hsp hz hk4
          go_wp2
          go_loopw [6] (fun v wr2 => ∃ e : Nat, v = .int .i64 e ∧ 1 ≤ e ∧ e ≤ R.size ∧ wr2 = wr ∧ Hid (∀ x ∈ (R.data.toList.drop 1).take (e - 1), x ≠ 32)) (fun v _ => R.size - (intOf v).toNat)
          case atStart => exact ⟨1, rfl, by omega, by omega, rfl, fun x hx => by simp at hx⟩
          case round =>
            obtain ⟨e, rfl, he1, he2, rfl, HM⟩ := hrel
            by_cases hin : ∃ h : e < R.size, R[e] ≠ 32
            · obtain ⟨hlt, hc⟩ := hin
              have hc2 : ((R[e].toNat : Int) != 32) = true := byte_ne2 hc
              have HM2 : Hid (∀ x ∈ (R.data.toList.drop 1).take (e + 1 - 1), x ≠ 32) := by
                unfold Hid
                rw [mid_snoc he1 hlt]
                intro x hx
                rcases List.mem_append.1 hx with hx | hx
                · exact HM.out x hx
                · obtain rfl := List.mem_singleton.1 hx
                  exact hc
              clear hc
              go_wp2
              go_roundw
              case rel => exact ⟨e + 1, by go_num, by omega, by omega, trivial, HM2.out⟩
              case measure => simp [intOf]; omega
            · have HEND : Hid (e = R.size ∨ ∃ h : e < R.size, R[e] = 32) := by
                unfold Hid
                by_cases h : e < R.size
                · exact .inr ⟨h, Classical.byContradiction fun hh => hin ⟨h, hh⟩⟩
                · exact .inl (by omega)
              have HCUT := Lib.hid (rest_cut hz1 HSP.out he1 he2)
              have hse : (R.extract e R.size).size + 1 ≤ R.size := by rw [ByteArray.size_extract]; omega
              have HREF : Hid (∀ W, Calls Tryd.prog 36 #[.string (R.extract 1 e)] W fun ε w' => ∃ (r : Rf) (b : Bool), ((b = true ∧ Pst s.data.toList (q.push k r) (R.extract e R.size).data.toList) ∨ (b = false ∧ parseR s.data.toList = (ob0, 9))) ∧ ε = .returned (.tuple #[.agg #[.int .i64 r.1, .int .u32 r.2], .bool b]) ∧ Below W.heap.size W w') := fun W => by
                have hq := HQ.out
                rw [HCUT.out] at hq
                refine (dref_any (R.extract 1 e) (by rw [ByteArray.size_extract]; omega) W).mono ?_
                rintro ε w' ⟨r, b, ⟨_, hr⟩, h1, h2⟩
                rw [ext_mid] at hr
                refine ⟨r, b, ?_, h1, h2⟩
                rcases hr with ⟨rfl, hr1, hr2⟩ | ⟨rfl, hr1⟩
                · exact .inl ⟨rfl, by rw [ext_drop]; exact hq.next (drop_spb HEND.out) HK.out hk3 hr1 hr2⟩
                · exact .inr ⟨rfl, parse_bad' (hq.wrong HM.out (drop_spb HEND.out) hr1)⟩
              have hend := HEND.out
              clear hin
              rcases hend with hend | ⟨hlt, hc⟩
              · subst hend
                go_wp2_with fail
                refine (HREF.out _).mono ?_
                rintro ε w5 ⟨r, b, hrb, rfl, hb5⟩
                obtain ⟨w6, hw6⟩ : ∃ w6, w5.alloc (.cells #[.int .i64 r.1, .int .u32 r.2] 24) = w6 := ⟨_, rfl⟩
                have kn : Bk w6 w5.heap.size 24 (rfc r) := by rw [← hw6]; exact Bk.new _ _ _
                have hal : Below w5.heap.size w5 w6 := by rw [← hw6]; exact (Below.refl _ _).alloc (Nat.le_refl _) _
                have hb6 := bel2 hb5 hal
                have hsz5 := hb5.size
                have HJ6 : Hid (Bk w6 (w.heap.size + 1) 31 (obc q) ∧ Bk w6 w.heap.size 31 (obc ob0) ∧ Below w.heap.size w w6) := ⟨HJ.out.1.below hb6, HJ.out.2.1.below hb6, bel2 HJ.out.2.2 hb6⟩
                have HKN := Lib.hid kn
                have HW6 := Lib.hid hw6
                have hsz6 : w6.heap.size = w5.heap.size + 1 := by rw [← hw6, World.size_alloc]
                clear hw6 kn hal hb6 hb5 hb0
                go_upto_region 14 with fail
                rw [HW6.out]
                rcases hrb with ⟨rfl, hrb⟩ | ⟨rfl, hrb⟩
                · have HPN := Lib.hid hrb
                  have hb0 := HJ6.out.1.ob.1
                  rw [HK.out] at hb0
                  obtain ⟨r0, r1⟩ := HKN.out.rf
                  have fz0 := HJ6.out.1.frozen (1 + k * 2)
                  have fz1 := HJ6.out.1.frozen (1 + k * 2 + 1)
                  have s0 := (HJ6.out.1.cell (1 + k * 2)).trans (obc_s q k hk3)
                  have s1 := (HJ6.out.1.cell (1 + k * 2 + 1)).trans (obc_g q k hk3)
                  clear hrb
                  go_upto_region 17 with fail
                  obtain ⟨W7, hW7⟩ : ∃ W7, (w6.setCell ⟨w.heap.size + 1, 1 + k * 2, none⟩ (.int .i64 r.1)).setCell ⟨w.heap.size + 1, 1 + k * 2 + 1, none⟩ (.int .u32 r.2) = W7 := ⟨_, rfl⟩
                  have L1 : Bk W7 (w.heap.size + 1) 31 (obc (q.upd r k)) := by rw [← hW7]; exact put_fld HJ6.out.1 r hk3
                  have HL : Hid (∀ W', W' = W7.setCell ⟨w.heap.size + 1, 0, none⟩ (.int .i64 ((k : Int) + 1)) → Bk W' (w.heap.size + 1) 31 (obc (q.push k r)) ∧ Bk W' w.heap.size 31 (obc ob0) ∧ Below w.heap.size w W') := by
                    intro W' hW'
                    subst hW'
                    subst hW7
                    refine ⟨put_push hk3 r HJ6.out.1, ((HJ6.out.2.1.other (by omega)).other (by omega)).other (by omega), ?_⟩
                    exact ((HJ6.out.2.2.setCell (p := ⟨w.heap.size + 1, 1 + k * 2, none⟩) (by show w.heap.size ≤ w.heap.size + 1; omega) _).setCell (p := ⟨w.heap.size + 1, 1 + k * 2 + 1, none⟩) (by show w.heap.size ≤ w.heap.size + 1; omega) _).setCell (p := ⟨w.heap.size + 1, 0, none⟩) (by show w.heap.size ≤ w.heap.size + 1; omega) _
                  rw [hW7]
                  have d0 := L1.ob.1
                  rw [(upd_n _ _ _).1, HK.out] at d0
                  have g0 := L1.frozen 0
                  have hl1 := L1.lt
                  clear hW7 L1 fz0 fz1 s0 s1 r0 r1 hb0
                  go_wp2
                  go_roundw
                  case rel => first | exact ⟨_, q.push k r, k + 1, rfl, by omega, by omega, by go_num, HPN.out, HL.out _ rfl⟩ | exact ⟨ByteArray.empty, q.push k r, k + 1, rfl, by decide, by omega, by go_num, by have h9 := HPN.out; rw [ext_none R] at h9; exact h9, HL.out _ rfl⟩
                  case measure => first | (simp only [strLen]; omega) | (have e0 : ByteArray.empty.size = 0 := rfl; simp only [strLen, e0]; omega)
                · have HPR := Lib.hid hrb
                  obtain ⟨a0, a1, a2, a3, a4, a5, a6, a7, a8, a9⟩ := HJ6.out.2.1.ob
                  obtain ⟨f0, f1, f2, f3, f4, f5, f6, f7, f8, f9⟩ := HJ6.out.2.1.ofz
                  simp only [ob0] at a0 a1 a2 a3 a4 a5 a6 a7 a8 a9
                  clear hrb
                  go_wp2
                  refine bodyPost_ret (v := .tuple #[.agg #[.int .i64 0, .int .i64 0, .int .u32 0, .int .i64 0, .int .u32 0, .int .i64 0, .int .u32 0, .int .i64 0, .int .u32 0, .bool false], .int .i64 9]) ?_ rfl ⟨by rw [HPR.out]; rfl, ?_⟩
                  · simp [results, Tryd.f26, go_sem, *]
                  · exact bel10 HJ6.out.2.2 (Nat.le_refl _) _ _ _ _ _ _ _ _ _ _
              · have hc2 : ((R[e].toNat : Int) != 32) = false := byte_eq2 hc
                clear hc
                go_wp2_with fail
                refine (HREF.out _).mono ?_
                rintro ε w5 ⟨r, b, hrb, rfl, hb5⟩
                obtain ⟨w6, hw6⟩ : ∃ w6, w5.alloc (.cells #[.int .i64 r.1, .int .u32 r.2] 24) = w6 := ⟨_, rfl⟩
                have kn : Bk w6 w5.heap.size 24 (rfc r) := by rw [← hw6]; exact Bk.new _ _ _
                have hal : Below w5.heap.size w5 w6 := by rw [← hw6]; exact (Below.refl _ _).alloc (Nat.le_refl _) _
                have hb6 := bel2 hb5 hal
                have hsz5 := hb5.size
                have HJ6 : Hid (Bk w6 (w.heap.size + 1) 31 (obc q) ∧ Bk w6 w.heap.size 31 (obc ob0) ∧ Below w.heap.size w w6) := ⟨HJ.out.1.below hb6, HJ.out.2.1.below hb6, bel2 HJ.out.2.2 hb6⟩
                have HKN := Lib.hid kn
                have HW6 := Lib.hid hw6
                have hsz6 : w6.heap.size = w5.heap.size + 1 := by rw [← hw6, World.size_alloc]
                clear hw6 kn hal hb6 hb5 hb0
                go_upto_region 14 with fail
                rw [HW6.out]
                rcases hrb with ⟨rfl, hrb⟩ | ⟨rfl, hrb⟩
                · have HPN := Lib.hid hrb
                  have hb0 := HJ6.out.1.ob.1
                  rw [HK.out] at hb0
                  obtain ⟨r0, r1⟩ := HKN.out.rf
                  have fz0 := HJ6.out.1.frozen (1 + k * 2)
                  have fz1 := HJ6.out.1.frozen (1 + k * 2 + 1)
                  have s0 := (HJ6.out.1.cell (1 + k * 2)).trans (obc_s q k hk3)
                  have s1 := (HJ6.out.1.cell (1 + k * 2 + 1)).trans (obc_g q k hk3)
                  clear hrb
                  go_upto_region 17 with fail
                  obtain ⟨W7, hW7⟩ : ∃ W7, (w6.setCell ⟨w.heap.size + 1, 1 + k * 2, none⟩ (.int .i64 r.1)).setCell ⟨w.heap.size + 1, 1 + k * 2 + 1, none⟩ (.int .u32 r.2) = W7 := ⟨_, rfl⟩
                  have L1 : Bk W7 (w.heap.size + 1) 31 (obc (q.upd r k)) := by rw [← hW7]; exact put_fld HJ6.out.1 r hk3
                  have HL : Hid (∀ W', W' = W7.setCell ⟨w.heap.size + 1, 0, none⟩ (.int .i64 ((k : Int) + 1)) → Bk W' (w.heap.size + 1) 31 (obc (q.push k r)) ∧ Bk W' w.heap.size 31 (obc ob0) ∧ Below w.heap.size w W') := by
                    intro W' hW'
                    subst hW'
                    subst hW7
                    refine ⟨put_push hk3 r HJ6.out.1, ((HJ6.out.2.1.other (by omega)).other (by omega)).other (by omega), ?_⟩
                    exact ((HJ6.out.2.2.setCell (p := ⟨w.heap.size + 1, 1 + k * 2, none⟩) (by show w.heap.size ≤ w.heap.size + 1; omega) _).setCell (p := ⟨w.heap.size + 1, 1 + k * 2 + 1, none⟩) (by show w.heap.size ≤ w.heap.size + 1; omega) _).setCell (p := ⟨w.heap.size + 1, 0, none⟩) (by show w.heap.size ≤ w.heap.size + 1; omega) _
                  rw [hW7]
                  have d0 := L1.ob.1
                  rw [(upd_n _ _ _).1, HK.out] at d0
                  have g0 := L1.frozen 0
                  have hl1 := L1.lt
                  clear hW7 L1 fz0 fz1 s0 s1 r0 r1 hb0
                  go_wp2
                  go_roundw
                  case rel => first | exact ⟨_, q.push k r, k + 1, rfl, by omega, by omega, by go_num, HPN.out, HL.out _ rfl⟩ | exact ⟨ByteArray.empty, q.push k r, k + 1, rfl, by decide, by omega, by go_num, by have h9 := HPN.out; rw [ext_none R] at h9; exact h9, HL.out _ rfl⟩
                  case measure => first | (simp only [strLen]; omega) | (have e0 : ByteArray.empty.size = 0 := rfl; simp only [strLen, e0]; omega)
                · have HPR := Lib.hid hrb
                  obtain ⟨a0, a1, a2, a3, a4, a5, a6, a7, a8, a9⟩ := HJ6.out.2.1.ob
                  obtain ⟨f0, f1, f2, f3, f4, f5, f6, f7, f8, f9⟩ := HJ6.out.2.1.ofz
                  simp only [ob0] at a0 a1 a2 a3 a4 a5 a6 a7 a8 a9
                  clear hrb
                  go_wp2
                  refine bodyPost_ret (v := .tuple #[.agg #[.int .i64 0, .int .i64 0, .int .u32 0, .int .i64 0, .int .u32 0, .int .i64 0, .int .u32 0, .int .i64 0, .int .u32 0, .bool false], .int .i64 9]) ?_ rfl ⟨by rw [HPR.out]; rfl, ?_⟩
                  · simp [results, Tryd.f26, go_sem, *]
                  · exact bel10 HJ6.out.2.2 (Nat.le_refl _) _ _ _ _ _ _ _ _ _ _
      · have hsp2 : ((R[0].toNat : Int) != 32) = true := byte_ne2 hsp
        have HPR : Hid (parseR s.data.toList = (ob0, 9)) := parse_bad' (by
          have := HQ.out
          rw [HCONS.out] at this
          exact this.nospace hsp)
        obtain ⟨a0, a1, a2, a3, a4, a5, a6, a7, a8, a9⟩ := j2.ob
        obtain ⟨f0, f1, f2, f3, f4, f5, f6, f7, f8, f9⟩ := j2.ofz
        simp only [ob0] at a0 a1 a2 a3 a4 a5 a6 a7 a8 a9
        clear j1 j2 j3 hsp hz
        go_wp2
        refine bodyPost_ret (v := .tuple #[.agg #[.int .i64 0, .int .i64 0, .int .u32 0, .int .i64 0, .int .u32 0, .int .i64 0, .int .u32 0, .int .i64 0, .int .u32 0, .bool false], .int .i64 9]) ?_ rfl ⟨by rw [HPR.out]; rfl, ?_⟩
        · simp [results, Tryd.f26, go_sem, *]
        · exact bel10 HJ.out.2.2 (Nat.le_refl _) _ _ _ _ _ _ _ _ _ _

set_option maxHeartbeats 2000000 in
theorem dparse_handle (w : World) : Calls Tryd.prog 26 #[.string ⟨#[104, 97, 110, 100, 108, 101]⟩] w fun e w' => e = .returned (.tuple #[obv (mk 0 true), .int .i64 0]) ∧ Below w.heap.size w w' := by
  go_enter Tryd.func26, Tryd.ntmps26
  go_wp2
  refine bodyPost_ret (v := .tuple #[.agg #[.int .i64 0, .int .i64 0, .int .u32 0, .int .i64 0, .int .u32 0, .int .i64 0, .int .u32 0, .int .i64 0, .int .u32 0, .bool true], .int .i64 0]) ?_ rfl ⟨rfl, ?_⟩
  · simp [results, Tryd.f26, go_sem]
  · exact (Below.refl _ _).alloc (Nat.le_refl _) _
set_option maxHeartbeats 2000000 in
theorem dparse_out (s : ByteArray) (hs : s.size ≤ 100000) (hne : s.data.toList ≠ hndW) (h : s.size < 6 ∨ (6 ≤ s.size ∧ s.data.toList.take 6 ≠ objW)) (w : World) :
    Calls Tryd.prog 26 #[.string s] w fun e w' => e = .returned (.tuple #[obv ob0, .int .i64 9]) ∧ Below w.heap.size w w' := by
  have heq : (s.toList == [104, 97, 110, 100, 108, 101]) = false := by
    rw [beq_eq_false_iff_ne, ByteArray.toList_eq]
    exact hne
  rcases h with h | ⟨h6, hpre⟩
  · clear hne
    go_enter Tryd.func26, Tryd.ntmps26
    go_wp2
    refine bodyPost_ret (v := .tuple #[.agg #[.int .i64 0, .int .i64 0, .int .u32 0, .int .i64 0, .int .u32 0, .int .i64 0, .int .u32 0, .int .i64 0, .int .u32 0, .bool false], .int .i64 9]) ?_ rfl ⟨rfl, ?_⟩
    · simp [results, Tryd.f26, go_sem]
    · exact (Below.refl _ _).alloc (Nat.le_refl _) _
  · have hp2 : ((s.extract 0 6).toList == [111, 98, 106, 101, 99, 116]) = false := by
      rw [beq_eq_false_iff_ne, ByteArray.toList_eq, ext_take]
      exact hpre
    clear hne hpre
    go_enter Tryd.func26, Tryd.ntmps26
    go_wp2
    refine bodyPost_ret (v := .tuple #[.agg #[.int .i64 0, .int .i64 0, .int .u32 0, .int .i64 0, .int .u32 0, .int .i64 0, .int .u32 0, .int .i64 0, .int .u32 0, .bool false], .int .i64 9]) ?_ rfl ⟨rfl, ?_⟩
    · simp [results, Tryd.f26, go_sem]
    · exact (Below.refl _ _).alloc (Nat.le_refl _) _
theorem handle_mk : Poss (mk 0 true) := mk_poss (by decide) (by decide) (fun _ => rfl)
theorem dparse_any (s : ByteArray) (hs : s.size ≤ 100000) (w : World) :
    Calls Tryd.prog 26 #[.string s] w fun e w' => e = .returned (.tuple #[obv (parseR s.data.toList).1, .int .i64 (parseR s.data.toList).2]) ∧ Below w.heap.size w w' := by
  by_cases hne : s.data.toList = hndW
  · have e : parseR s.data.toList = (mk 0 true, 0) := by rw [hne]; exact parse_ok' handle_mk
    rw [e, str_eq hne]
    exact dparse_handle w
  · by_cases h6 : s.size < 6
    · rw [parse_bad' (noobj_short (by rw [← Lib.size_eq]; exact h6))]
      exact dparse_out s hs hne (.inl h6) w
    · by_cases hp : s.data.toList.take 6 = objW
      · exact dparse_loop s hs (by omega) hne hp w
      · rw [parse_bad' (noobj_other hne hp)]
        exact dparse_out s hs hne (.inr ⟨by omega, hp⟩) w
end Go.Proofs.YtmbkhkijmfogcaaDoor
