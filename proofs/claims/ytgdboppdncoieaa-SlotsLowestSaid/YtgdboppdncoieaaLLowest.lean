/- The walk of the statement SlotsLowest: it returns true for all sizes, generations and turns. -/
import Derived.Test.YtgdboppdncoieaaLStale
namespace Go.Proofs.Ytgdboppdncoieaa
open Go.RowKit

/-- Of a list without some: where one that stays stands. -/
theorem filter_at {l m : List Nat} {p : Nat → Bool} (h : l.filter p = m) {k x : Nat} (hk : l[k]? = some x) (hp : p x = true) : m[((l.take k).filter p).length]? = some x ∧ ((l.take (k + 1)).filter p).length = ((l.take k).filter p).length + 1 := by
  obtain ⟨hl, e⟩ := List.getElem?_eq_some_iff.1 hk
  have e2 : l.take (k + 1) = l.take k ++ [x] := by rw [List.take_succ_eq_append_getElem hl, e]
  have e3 : (l.take (k + 1)).filter p = (l.take k).filter p ++ [x] := by rw [e2, List.filter_append]; simp [hp]
  refine ⟨?_, by rw [e3]; simp⟩
  have e4 : m = (l.take k).filter p ++ [x] ++ (l.drop (k + 1)).filter p := by
    rw [← h, ← e3, ← List.filter_append, List.take_append_drop]
  rw [e4, List.getElem?_append_left (by simp), List.getElem?_append_right (Nat.le_refl _)]
  simp
theorem filter_skip {l : List Nat} {p : Nat → Bool} {k x : Nat} (hk : l[k]? = some x) (hp : p x = false) : ((l.take (k + 1)).filter p).length = ((l.take k).filter p).length := by
  obtain ⟨hl, e⟩ := List.getElem?_eq_some_iff.1 hk
  rw [List.take_succ_eq_append_getElem hl, e, List.filter_append]
  simp [hp]
theorem took_held {T : Tb} {i : Nat} (hs : T.s i = 0) : (T.took i).held.filter (fun x => decide (x ≠ i)) = T.held := by
  unfold Tb.held Tb.took sel
  simp only []
  rw [List.filter_filter]
  refine List.filter_congr fun x _ => ?_
  simp only [put]
  by_cases e : x = i
  · subst e; simp [hs]
  · simp [e]
/-- How many of the first k that are taken are not i. -/
def cntNot (T : Tb) (i k : Nat) : Nat := ((T.held.take k).filter fun x => decide (x ≠ i)).length
theorem took_lens {T : Tb} {i : Nat} (hi : i < T.n) (hs : T.s i = 0) : (T.took i).free.length + 1 = T.free.length ∧ (T.took i).now.length = T.now.length + 1 ∧ (T.took i).gone.length = T.gone.length := by
  have h := fun v => sel_put_len (f := T.s) (v := v) (u := 1) hi
  refine ⟨?_, ?_, ?_⟩
  · have := h 0; rw [if_pos hs, if_neg (by decide)] at this; exact this
  · rw [Tb.now_len, Tb.now_len]
    have := h 1; rw [if_neg (by omega), if_pos rfl] at this; exact this
  · have := h 2; rw [if_neg (by omega), if_neg (by decide)] at this; exact this
theorem took_s (T : Tb) (i : Nat) : (T.took i).s i = 1 := put_same _ _ _
theorem gave_lens {T : Tb} {i : Nat} (hi : i < T.n) (hs : T.s i = 1) : (T.g i = 4294967295 → (T.gave i).free.length = T.free.length ∧ (T.gave i).gone.length = T.gone.length + 1 ∧ (T.gave i).g i = 4294967295) ∧ (T.g i ≠ 4294967295 → (T.gave i).free.length = T.free.length + 1 ∧ (T.gave i).gone.length = T.gone.length ∧ (T.gave i).g i = T.g i + 1) := by
  have h := fun v u => sel_put_len (f := T.s) (v := v) (u := u) hi
  refine ⟨fun e => ?_, fun e => ?_⟩
  · unfold Tb.gave
    rw [if_pos e]
    refine ⟨?_, ?_, e⟩
    · have := h 0 2; rw [if_neg (by omega), if_neg (by decide)] at this; exact this
    · have := h 2 2; rw [if_neg (by omega), if_pos rfl] at this; exact this
  · unfold Tb.gave
    rw [if_neg e]
    refine ⟨?_, ?_, put_same _ _ _⟩
    · have := h 0 0; rw [if_neg (by omega), if_pos rfl] at this; exact this
    · have := h 2 0; rw [if_neg (by omega), if_neg (by decide)] at this; exact this
theorem gave_stale {T : Tb} {i : Nat} (hi : i < T.n) (g : Int) : (T.gave i).chk (i : Int) g = 7 := by
  have e1 : ¬ ((i : Int) < 0 ∨ ((T.gave i).n : Int) ≤ (i : Int)) := by rw [T.gave_n]; omega
  unfold Tb.chk
  rw [if_neg e1, if_neg]
  rintro ⟨h, _⟩
  rw [Int.toNat_natCast] at h
  unfold Tb.gave at h
  split at h
  · have h2 : put T.s i 2 i = 1 := h
    rw [put_same] at h2; omega
  · have h2 : put T.s i 0 i = 1 := h
    rw [put_same] at h2; omega
theorem gen_in {T : Tb} {i : Nat} (hi : i < T.n) : T.gen (i : Int) = T.g i ∧ T.genE (i : Int) = 0 := by
  have e1 : ¬ ((i : Int) < 0 ∨ (T.n : Int) ≤ (i : Int)) := by omega
  unfold Tb.gen Tb.genE
  rw [if_neg e1, if_neg e1, Int.toNat_natCast]
  exact ⟨rfl, rfl⟩

set_option maxRecDepth 100000 in
set_option maxHeartbeats 16000000 in
theorem lowest_core (size below : Int) (a : Option Addr) (len cap : Nat) (c : Nat → Bool) (q : Nat → Nat) (w : World) (h0 : 0 ≤ size) (h1 : size ≤ 255) (h2 : 0 ≤ below) (h3 : below ≤ 255) (hl : len ≤ 200) (hu : Turns w a len c q) :
    Calls Try.prog 7 #[.int .u8 size, .int .u8 below, .slice a len cap] w fun e w' => e = .returned (.bool true) ∧ Below w.heap.size w w' := by
  have HM := Lib.hid (made_ok size below a len cap c q w h0 h1 h2 h3 hl hu)
  clear h0 h1 h2 h3 hu
  go_enter Try.func7, Try.ntmps7
  go_wp2_with fail
  refine HM.out.mono ?_
  rintro e w1 ⟨b, a1, c1, rfl, hb, ht, _, hbel⟩
  have S1 : Hid (WSt w w1 b (runT (mk0 size below) c q len)) := ⟨ht, hbel, hb⟩
  clear HM hb ht hbel
  generalize runT (mk0 size below) c q len = T at *
  have HNL : Hid (T.now.length ≤ 256 ∧ T.free.length ≤ 256 ∧ T.gone.length ≤ 256) := by
    have h := S1.out.t.ok.hi
    have := sel_len T.s 1 T.n
    have := sel_len T.s 0 T.n
    have := sel_len T.s 2 T.n
    refine ⟨by rw [Tb.now_len]; exact T.held_len S1.out.t.ok, by unfold Tb.free; omega, by unfold Tb.gone; omega⟩
  go_wp2_with fail
  refine (taken_s b T _ S1.out.t).mono ?_
  rintro e w2 ⟨a2, c2, rfl, hs2, hb2⟩
  have S2 := Lib.hid (S1.out.quiet hb2)
  have R2 := Lib.hid hs2
  clear hs2 hb2 S1
  go_wp2_with fail
  refine (free_ok b T _ S2.out.t).mono ?_
  rintro e w3 ⟨rfl, hb3⟩
  have S3 := Lib.hid (S2.out.quiet hb3)
  have R3 := Lib.hid (R2.out.below hb3)
  clear hb3 S2 R2
  go_wp2_with fail
  refine (retired_ok b T _ S3.out.t).mono ?_
  rintro e w4 ⟨rfl, hb4⟩
  have S4 := Lib.hid (S3.out.quiet hb4)
  have R4 := Lib.hid (R3.out.below hb4)
  clear hb4 S3 R3
  cases hfr : T.free with
  | nil =>
    have HTE := Lib.hid (show T.tI = 0 ∧ T.tG = 0 ∧ T.tE = 4 ∧ T.take = T from ⟨by simp [Tb.tI, hfr], by simp [Tb.tG, hfr], by simp [Tb.tE, hfr], by unfold Tb.take; rw [hfr]⟩)
    clear hfr
    simp only [List.length_nil]
    go_wp2_with fail
    refine (take_s b T 0 0 4 _ S4.out.t HTE.out.1 HTE.out.2.1 HTE.out.2.2.1).mono ?_
    rintro e w5 ⟨rfl, ht, hk5⟩
    rw [HTE.out.2.2.2] at ht
    have hal : Below w5.heap.size w5 (w5.alloc (.cells #[.int .i64 0, .int .u32 0] 33)) := (Below.refl _ w5).alloc (Nat.le_refl _) _
    have S5 := Lib.hid ((S4.out.step hk5 ht).quiet hal)
    have hd : ((T.now.length : Int) == (T.now.length : Int)) = true := by simp
    clear ht hk5 hal S4 R4
    go_wp2_with fail
    refine (taken_s b T _ S5.out.t).mono ?_
    rintro e w6 ⟨a6, c6, rfl, _, hb6⟩
    have S6 := Lib.hid (S5.out.quiet hb6)
    clear hb6 S5
    go_wp2_with fail
    refine (works_ok _).mono ?_
    rintro e w7 ⟨rfl, hb7⟩
    go_wp2
    go_ret
    exact ⟨rfl, bel2 S6.out.bel hb7⟩
  | cons i fr =>
    obtain ⟨hin, his⟩ := Tb.free_lt hfr
    have hlen : T.free.length = fr.length + 1 := by rw [hfr]; rfl
    obtain ⟨k1, k2, k3⟩ := took_lens hin his
    have HTE := Lib.hid (show T.tI = i ∧ T.tG = T.g i ∧ T.tE = 0 ∧ T.take = T.took i from ⟨by simp [Tb.tI, hfr], by simp [Tb.tG, hfr], by simp [Tb.tE, hfr], by unfold Tb.take; rw [hfr]⟩)
    have HIN : Hid (i < (T.took i).n ∧ (T.took i).s i = 1) := ⟨hin, took_s T i⟩
    have HHF := Lib.hid (took_held his)
    obtain ⟨g, hg⟩ : ∃ g, T.g i = g := ⟨_, rfl⟩
    rw [hg] at HTE
    have HG : Hid ((T.took i).g i = g) := hg
    have hfl : (fr.length + 1 : Nat) ≤ 256 := by have := HNL.out.2.1; omega
    have hf1 : (T.took i).free.length = fr.length := by omega
    have HF1 := Lib.hid hf1
    have HK2 := Lib.hid k2
    have HK3 := Lib.hid k3
    have HGG : Hid (∀ k x, (T.took i).held[k]? = some x → (T.took i).now[k]? = some (x, T.g x)) := fun k x h => now_at' h
    have HGW : Hid (∀ k x, T.held[k]? = some x → T.now[k]? = some (x, T.g x)) := fun k x h => now_at' h
    simp only [List.length_cons]
    generalize fr.length = fl at *
    clear hfr hin his hlen k1 k2 k3 hf1 hg
    go_wp2_with fail
    refine (take_s b T i g 0 _ S4.out.t HTE.out.1 HTE.out.2.1 HTE.out.2.2.1).mono ?_
    rintro e w5 ⟨rfl, ht, hk5⟩
    rw [HTE.out.2.2.2] at ht
    have hal : Below w5.heap.size w5 (w5.alloc (.cells #[.int .i64 i, .int .u32 g] 33)) := (Below.refl _ w5).alloc (Nat.le_refl _) _
    have S5 : Hid (StaSt w (w5.alloc (.cells #[.int .i64 i, .int .u32 g] 33)) b w5.heap.size (.slice a2 T.now.length c2) (T.took i) T.now i g) :=
      ⟨ht.below hal, (R4.out.kept hk5 S4.out.t).below hal, Bk.new w5 _ _, bel2 (kept_bel S4.out.bel hk5 S4.out.lb) hal, S4.out.lb, by have := ht.bt; omega⟩
    clear ht hk5 hal S4 R4
    go_wp2_with fail
    generalize w5.heap.size = R at *
    generalize w5.alloc (.cells #[.int .i64 i, .int .u32 g] 33) = w6 at *
    refine (gen_any b (T.took i) i _ S5.out.t).mono ?_
    rw [(gen_in HIN.out.1).1, (gen_in HIN.out.1).2, HG.out]
    rintro e w' ⟨rfl, rfl⟩
    go_wp2_with fail
    refine (taken_s b (T.took i) _ S5.out.t).mono ?_
    rintro e w7 ⟨a7, c7, rfl, hs7, hb7⟩
    have S7 := Lib.hid (S5.out.quiet hb7)
    have R7 := Lib.hid hs7
    have hr1 : w7.cell? ⟨R, 1, none⟩ = some (.int .u32 g) := S7.out.r.cell 1
    have hgg : ((g : Int) != (g : Int)) = false := by simp
    clear hs7 hb7 S5
    rw [HK2.out]
    rw [HK2.out] at R7
    go_wp2_with fail
    clear hr1 hgg
    refine (free_ok b (T.took i) _ S7.out.t).mono ?_
    rw [HF1.out]
    rintro e w8 ⟨rfl, hb8⟩
    have S8 := Lib.hid (S7.out.quiet hb8)
    have R8 := Lib.hid (R7.out.below hb8)
    have hd1 : ((fl : Int) != ((fl + 1 : Nat) : Int) - 1) = false := by simp
    have hd2 : (((T.now.length + 1 : Nat) : Int) != (T.now.length : Int) + 1) = false := by simp
    have hnl := HNL.out.1
    clear hb8 S7 R7
    go_wp2_with fail
    clear hd1 hd2
    refine (retired_ok b (T.took i) _ S8.out.t).mono ?_
    rw [HK3.out]
    rintro e w9 ⟨rfl, hb9⟩
    have S9 := Lib.hid (S8.out.quiet hb9)
    have R9 := Lib.hid (R8.out.below hb9)
    have hd3 : ((T.gone.length : Int) != (T.gone.length : Int)) = false := by simp
    clear hb9 S8 R8
    go_wp2
    clear hd3
    go_loopw [17, 18] (fun ax ix wq => ∃ k : Nat, k ≤ T.now.length + 1 ∧ ix = .int .i64 k ∧ ax = .int .i64 (cntNot (T.took i) i k) ∧ Hid (Sr wq (.slice a7 (T.now.length + 1) c7) (T.took i).now) ∧ Hid (StaSt w wq b R (.slice a2 T.now.length c2) (T.took i) T.now i g)) (fun _ ix _ => T.now.length + 1 - (intOf ix).toNat)
    case atStart => exact ⟨0, Nat.zero_le _, rfl, rfl, R9.out, S9.out⟩
    case round =>
      clear S9 R9
      obtain ⟨k, hk, rfl, rfl, HR, HS⟩ := hrel
      by_cases hlt : k < T.now.length + 1
      · obtain ⟨x, hx⟩ : ∃ x, (T.took i).held[k]? = some x := ⟨_, List.getElem?_eq_getElem (by have := HK2.out; rw [Tb.now_len] at this; omega)⟩
        obtain ⟨g2, rfl, hg2, hd0, hd1⟩ := HR.out.at (HGG.out k x hx)
        simp only [] at hd0 hd1
        have hr0 : wr.cell? ⟨R, 0, none⟩ = some (.int .i64 i) := HS.out.r.cell 0
        have hr1 : wr.cell? ⟨R, 1, none⟩ = some (.int .u32 g) := HS.out.r.cell 1
        by_cases hxi : x = i
        · have hsk := filter_skip (p := fun x => decide (x ≠ i)) hx (by simp [hxi])
          have HSK : Hid (cntNot (T.took i) i (k + 1) = cntNot (T.took i) i k) := hsk
          have hgx : T.g x = g := by rw [hxi]; exact HG.out
          rw [hgx] at hd1
          subst hxi
          have hxx : ((x : Int) == (x : Int)) = true := by simp
          have hyy : ((g : Int) == (g : Int)) = true := by simp
          generalize cntNot (T.took x) x k = ct at *
          clear hsk hgx hx
          go_wp2
          go_quiet (fail)
          go_wp2
          go_roundw
          case rel => exact ⟨k + 1, by omega, by go_num, by rw [HSK.out], HR.out.below (bel_drewN (Below.refl _ _) _), HS.out.quiet (bel_drewN (Below.refl _ _) _)⟩
          case measure => simp [intOf]; omega
        · obtain ⟨hat, hsk⟩ := filter_at (p := fun x => decide (x ≠ i)) HHF.out hx (by simp [hxi])
          have HSK : Hid (cntNot (T.took i) i (k + 1) = cntNot (T.took i) i k + 1) := hsk
          have hat2 : T.held[cntNot (T.took i) i k]? = some x := hat
          have hcl : cntNot (T.took i) i k < T.now.length := by rw [Tb.now_len]; exact (List.getElem?_eq_some_iff.1 hat2).1
          have hwas := HGW.out _ _ hat2
          generalize cntNot (T.took i) i k = ct at *
          obtain ⟨g3, rfl, hg3, he0, he1⟩ := HS.out.s.at hwas
          simp only [] at he0 he1
          have hxx : ((x : Int) == (i : Int)) = false := beq_eq_false_iff_ne.2 (by omega)
          have hxy : ((x : Int) == (x : Int)) = true := by simp
          generalize T.g x = y at *
          have hyy : ((y : Int) == (y : Int)) = true := by simp
          have hcl2 : ¬ ((T.now.length : Int) ≤ (ct : Int)) := by omega
          clear hsk hat hat2 hx hwas
          go_wp2
          go_quiet (fail)
          go_wp2
          go_quiet (fail)
          go_wp2
          go_roundw
          case rel => exact ⟨k + 1, by omega, by go_num, by rw [HSK.out]; go_num, HR.out.below (bel_drewN (Below.refl _ _) _), HS.out.quiet (bel_drewN (Below.refl _ _) _)⟩
          case measure => simp [intOf]; omega
      · obtain rfl : k = T.now.length + 1 := by omega
        have HCH : Hid ((T.took i).chk i g = 0) := by
          have h := Tb.chk_held HIN.out.1 HIN.out.2
          rw [HG.out] at h; exact h
        have HGV : Hid ((T.took i).given i g = (T.took i).gave i) := by
          have h := Tb.given_held HIN.out.1 HIN.out.2
          rw [HG.out] at h; exact h
        have HST := Lib.hid (gave_stale HIN.out.1 (g : Int))
        have HGN : Hid (((T.took i).gave i).given i g = (T.took i).gave i) := by unfold Hid Tb.given; rw [HST.out]; rfl
        have HGE : Hid (((T.took i).gave i).gen i = (((T.took i).gave i).g i : Int) ∧ ((T.took i).gave i).genE i = 0) := gen_in (by rw [Tb.gave_n]; exact HIN.out.1)
        obtain ⟨l1, l2⟩ := gave_lens HIN.out.1 HIN.out.2
        rw [HG.out, HF1.out, HK3.out] at l1 l2
        have L1 := Lib.hid l1
        have L2 := Lib.hid l2
        have hgb : 1 ≤ g ∧ g ≤ 4294967295 := by
          have h1 := HS.out.t.ok.g1 i HIN.out.1
          have h2 := HS.out.t.ok.gm i
          rw [HG.out] at h1 h2
          exact ⟨h1, h2⟩
        obtain ⟨hg1, hg2⟩ := hgb
        have hr0 : wr.cell? ⟨R, 0, none⟩ = some (.int .i64 i) := HS.out.r.cell 0
        have hr1 : wr.cell? ⟨R, 1, none⟩ = some (.int .u32 g) := HS.out.r.cell 1
        clear l1 l2 HR HHF HGG HGW HK2 HTE
        go_wp2_with fail
        clear hr0 hr1
        refine (give_s b (T.took i) i g 0 _ HS.out.t HCH.out).mono ?_
        rintro e w10 ⟨rfl, ht, hk10⟩
        rw [HGV.out] at ht
        have S10 := Lib.hid (HS.out.step hk10 ht)
        have hr0 : w10.cell? ⟨R, 0, none⟩ = some (.int .i64 i) := S10.out.r.cell 0
        have hr1 : w10.cell? ⟨R, 1, none⟩ = some (.int .u32 g) := S10.out.r.cell 1
        clear ht hk10 HS
        go_wp2_with fail
        clear hr0 hr1
        refine (give_s b ((T.took i).gave i) i g 7 _ S10.out.t HST.out).mono ?_
        rintro e w11 ⟨rfl, ht, hk11⟩
        rw [HGN.out] at ht
        have S11 := Lib.hid (S10.out.step hk11 ht)
        have hr0 : w11.cell? ⟨R, 0, none⟩ = some (.int .i64 i) := S11.out.r.cell 0
        have hr1 : w11.cell? ⟨R, 1, none⟩ = some (.int .u32 g) := S11.out.r.cell 1
        clear ht hk11 S10
        go_wp2_with fail
        clear hr0 hr1
        refine (check_s b ((T.took i).gave i) i g 7 _ S11.out.t HST.out).mono ?_
        rintro e w12 ⟨rfl, hb12⟩
        have S12 := Lib.hid (S11.out.quiet hb12)
        have hr0 : w12.cell? ⟨R, 0, none⟩ = some (.int .i64 i) := S12.out.r.cell 0
        have hr1 : w12.cell? ⟨R, 1, none⟩ = some (.int .u32 g) := S12.out.r.cell 1
        clear hb12 S11
        generalize (T.took i).gave i = V at *
        go_wp2_with fail
        refine (gen_any b V i _ S12.out.t).mono ?_
        rw [HGE.out.1, HGE.out.2]
        rintro e w' ⟨rfl, rfl⟩
        by_cases hmax : g = 4294967295
        · obtain ⟨m1, m2, m3⟩ := L1.out hmax
          subst hmax
          have M1 := Lib.hid m1
          have M2 := Lib.hid m2
          rw [m3]
          clear m1 m2 m3 L1 L2 hg1 hg2
          go_wp2_with fail
          clear hr0 hr1
          refine (next_last _).mono ?_
          rintro e w13 ⟨rfl, hb13⟩
          have S13 := Lib.hid (S12.out.quiet hb13)
          clear hb13 S12
          go_wp2_with fail
          refine (retired_ok b V _ S13.out.t).mono ?_
          rw [M2.out]
          rintro e w14 ⟨rfl, hb14⟩
          have S14 := Lib.hid (S13.out.quiet hb14)
          have hd1 : (((T.gone.length + 1 : Nat) : Int) != (T.gone.length : Int) + 1) = false := by simp
          have hgl := HNL.out.2.2
          clear hb14 S13
          go_wp2_with fail
          clear hd1
          refine (free_ok b V _ S14.out.t).mono ?_
          rw [M1.out]
          rintro e w15 ⟨rfl, hb15⟩
          have S15 := Lib.hid (S14.out.quiet hb15)
          have hd2 : ((fl : Int) != ((fl + 1 : Nat) : Int) - 1) = false := by simp
          clear hb15 S14
          go_wp2_with fail
          clear hd2
          refine (works_ok _).mono ?_
          rintro e w16 ⟨rfl, hb16⟩
          go_wp2
          go_ret
          exact ⟨rfl, bel2 S15.out.bel hb16⟩
        · obtain ⟨m1, m2, m3⟩ := L2.out hmax
          have M1 := Lib.hid m1
          have M2 := Lib.hid m2
          rw [m3]
          have hg3 : (1 : Int) ≤ g := by omega
          have hg4 : (g : Int) < 4294967295 := by omega
          clear m1 m2 m3 L1 L2 hg1 hg2 hmax
          go_wp2_with fail
          clear hr0 hr1
          refine (next_yes g _ hg3 hg4).mono ?_
          rintro e w13 ⟨rfl, hb13⟩
          have S13 := Lib.hid (S12.out.quiet hb13)
          have hd0 : (((g + 1 : Nat) : Int) == (g : Int) + 1) = true := by simp
          clear hb13 S12
          go_wp2_with fail
          clear hd0
          refine (free_ok b V _ S13.out.t).mono ?_
          rw [M1.out]
          rintro e w14 ⟨rfl, hb14⟩
          have S14 := Lib.hid (S13.out.quiet hb14)
          have hd1 : (((fl + 1 : Nat) : Int) == ((fl + 1 : Nat) : Int)) = true := by simp
          clear hb14 S13
          go_wp2_with fail
          clear hd1
          refine (retired_ok b V _ S14.out.t).mono ?_
          rw [M2.out]
          rintro e w15 ⟨rfl, hb15⟩
          have S15 := Lib.hid (S14.out.quiet hb15)
          have hd2 : ((T.gone.length : Int) == (T.gone.length : Int)) = true := by simp
          clear hb15 S14
          go_wp2_with fail
          clear hd2
          refine (works_ok _).mono ?_
          rintro e w16 ⟨rfl, hb16⟩
          go_wp2
          go_ret
          exact ⟨rfl, bel2 S15.out.bel hb16⟩

set_option maxRecDepth 100000 in
theorem lowest_long (size below : Int) (a : Option Addr) (len cap : Nat) (w : World) (hl : 200 < len) :
    Calls Try.prog 7 #[.int .u8 size, .int .u8 below, .slice a len cap] w fun e w' => e = .returned (.bool true) ∧ Below w.heap.size w w' := by
  go_enter Try.func7, Try.ntmps7
  go_wp2_with fail
  refine (works_ok _).mono ?_
  rintro e w3 ⟨rfl, hb3⟩
  go_wp2
  go_ret
  exact ⟨rfl, hb3⟩
theorem lowest_walk (size below : Int) (a : Option Addr) (len cap : Nat) (c : Nat → Bool) (q : Nat → Nat) (w : World) (h0 : 0 ≤ size) (h1 : size ≤ 255) (h2 : 0 ≤ below) (h3 : below ≤ 255) (hu : Turns w a len c q) :
    Calls Try.prog 7 #[.int .u8 size, .int .u8 below, .slice a len cap] w fun e w' => e = .returned (.bool true) ∧ Below w.heap.size w w' := by
  by_cases hl : len ≤ 200
  · exact lowest_core size below a len cap c q w h0 h1 h2 h3 hl hu
  · exact lowest_long size below a len cap w (by omega)
end Go.Proofs.Ytgdboppdncoieaa
