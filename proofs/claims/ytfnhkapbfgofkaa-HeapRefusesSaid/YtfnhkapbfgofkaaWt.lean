/- The contract of the model's turn, where nothing is there and where an object is freed. -/
import Derived.Test.YtfnhkapbfgofkaaWq
import Derived.Test.YtfnhkapbfgofkaaWl
namespace Go.Proofs.Ytfnhkapbfgofkaa
open Go.RowKit

theorem app_gone {w0 w : World} {mb b p t M e : Nat} {H : Hp} {pR : Option Addr} {qR cR : Nat} {R : List (Nat × Nat)} {pQ : Option Addr} {qQ cQ : Nat} {Q : List (Nat × Nat)} {N : Nat × Nat → Option (List Rf)} {P : Pl} (h : Mb w0 w mb b p t M e H pR qR cR R pQ qQ cQ Q N P) (i g : Nat) (hq : qQ ≤ 300) :
    ∃ p2 c2 w', (Builtin.append_ #[32, 32] 32 #[.slice pQ qQ cQ, .slice (some ⟨w.heap.size, 0, none⟩) 1 1]).run Try.prog (w.alloc (.cells #[.int .i64 (i : Nat), .int .u32 (g : Nat)] 34)).drew = .ok (.slice p2 (qQ + 1) c2) w' ∧
      w'.ownsRow w0.heap.size 34 2 (.slice p2 (qQ + 1) c2) (qQ + 1) (pairs (Q ++ [(i, g)])) ∧ Kept (fun x => (Value.slice pQ qQ cQ).ownBlock = some x) (w.alloc (.cells #[.int .i64 (i : Nat), .int .u32 (g : Nat)] 34)).drew w' ∧
      ((Value.slice p2 (qQ + 1) c2).ownBlock = (Value.slice pQ qQ cQ).ownBlock ∨ ∀ x, (Value.slice p2 (qQ + 1) c2).ownBlock = some x → (w.alloc (.cells #[.int .i64 (i : Nat), .int .u32 (g : Nat)] 34)).drew.heap.size ≤ x) := by
  have hbn : Below w.heap.size w (w.alloc (.cells #[.int .i64 (i : Nat), .int .u32 (g : Nat)] 34)).drew := bel_drew (bel_new _ _)
  have hn : Bk (w.alloc (.cells #[.int .i64 (i : Nat), .int .u32 (g : Nat)] 34)).drew w.heap.size 34 #[.int .i64 (i : Nat), .int .u32 (g : Nat)] := Bk.new w _ _
  have h1 := h.quiet hbn
  generalize (w.alloc (.cells #[.int .i64 (i : Nat), .int .u32 (g : Nat)] 34)).drew = X at *
  exact app_row h1.rQ hn hq h1.st.bel.size
set_option maxHeartbeats 8000000 in
set_option maxRecDepth 100000 in
theorem turn_none {w0 w : World} {mb b p t M e n f k : Nat} {H : Hp} {pR : Option Addr} {qR cR : Nat} {R : List (Nat × Nat)} {pQ : Option Addr} {qQ cQ : Nat} {Q : List (Nat × Nat)} {N : Nat × Nat → Option (List Rf)} {P : Pl} (kind I K : Nat) (_ : kind ≤ 255) (_ : I ≤ 255) (_ : K ≤ 255)
    (h : Mb w0 w mb b p t M e H pR qR cR R pQ qQ cQ Q N P) (hm : Mo H n f k R Q N) (he : e ≤ k) (hk : k ≤ 200) (h2 : ¬ kind % 4 < 2) (hq : qR = 0) :
    Calls Try.prog 32 #[.pointer (some ⟨mb, 0, none⟩), .agg #[.int .u8 kind, .int .u8 I, .int .u8 K]] w fun e w' => e = .returned (.bool true) ∧ Hid (Ms w0 w' mb b n f (k + 1)) := by
  have hk4 : (kind : Int).tmod 4 = ((kind % 4 : Nat) : Int) := tmod_nat kind 4
  generalize kind % 4 = k4 at *
  have h2i : ¬ (k4 : Int) < 2 := by omega
  subst hq
  have MO := Lib.hid (And.intro hm (And.intro he hk))
  obtain ⟨w1, hw1⟩ : ∃ w1, w.alloc (.cells #[.int .u8 kind, .int .u8 I, .int .u8 K] 65) = w1 := ⟨_, rfl⟩
  have HW := Lib.hid hw1
  have hbt := Bk.new w 65 #[.int .u8 kind, .int .u8 I, .int .u8 K]
  have h1 := h.quiet (bel_new w (.cells #[.int .u8 kind, .int .u8 I, .int .u8 K] 65))
  rw [hw1] at hbt h1
  have H1 := Lib.hid h1
  have BT := Lib.hid hbt
  have m0 : w1.cell? ⟨mb, 0, none⟩ = some (.pointer (some ⟨b, 0, none⟩)) := h1.bm.cell 0
  have m2 : w1.cell? ⟨mb, 2, none⟩ = some (.slice pR 0 cR) := h1.bm.cell 2
  have t0 : w1.cell? ⟨w.heap.size, 0, none⟩ = some (.int .u8 kind) := hbt.cell 0
  have t1 : w1.cell? ⟨w.heap.size, 1, none⟩ = some (.int .u8 I) := hbt.cell 1
  have t2 : w1.cell? ⟨w.heap.size, 2, none⟩ = some (.int .u8 K) := hbt.cell 2
  clear h h1 hm he hk h2 hbt hw1
  go_enter Try.func32, Try.ntmps32
  go_upto_region 1 with fail
  rw [HW.out]
  go_wp2
  go_ret
  exact ⟨rfl, _, _, _, _, _, _, _, _, _, _, _, _, _, _, _, H1.out, MO.out.1.keep, Nat.le_succ_of_le MO.out.2.1⟩
set_option maxHeartbeats 8000000 in
set_option maxRecDepth 100000 in
theorem turn_free {w0 w : World} {mb b p t M e n f k : Nat} {H : Hp} {pR : Option Addr} {qR cR : Nat} {R : List (Nat × Nat)} {pQ : Option Addr} {qQ cQ : Nat} {Q : List (Nat × Nat)} {N : Nat × Nat → Option (List Rf)} {P : Pl} (kind I K : Nat) (_ : kind ≤ 255) (_ : I ≤ 255) (_ : K ≤ 255)
    (h : Mb w0 w mb b p t M e H pR qR cR R pQ qQ cQ Q N P) (hm : Mo H n f k R Q N) (he : e ≤ k) (hk : k ≤ 200) (h2 : kind % 4 = 2) (hq : 0 < qR) :
    Calls Try.prog 32 #[.pointer (some ⟨mb, 0, none⟩), .agg #[.int .u8 kind, .int .u8 I, .int .u8 K]] w fun e w' => e = .returned (.bool true) ∧ Hid (Ms w0 w' mb b n f (k + 1)) := by
  have hk4 : (kind : Int).tmod 4 = ((kind % 4 : Nat) : Int) := tmod_nat kind 4
  generalize kind % 4 = k4 at *
  subst h2
  obtain ⟨y, hy⟩ : ∃ y, I % qR = y := ⟨_, rfl⟩
  have hIy : (I : Int).tmod qR = (y : Int) := by rw [tmod_nat, hy]
  have hyq : y < qR := by rw [← hy]; exact Nat.mod_lt _ hq
  have hqk : qR ≤ 300 := by have := h.lR; have := hm.rl; omega
  have hQk : qQ ≤ 300 := by have := h.lQ; have := hm.ql; omega
  obtain ⟨⟨ri, rg⟩, hr⟩ : ∃ r, R[y]? = some r := ⟨_, List.getElem?_eq_getElem (by rw [h.lR]; exact hyq)⟩
  have hrm : (ri, rg) ∈ R := List.mem_of_getElem? hr
  have MF := Lib.hid (hm.free hr)
  have MC := Lib.hid (hm.chk hrm)
  have MS : Hid (((H.freed ((ri : Int), (rg : Int))).chk ((ri : Int), (rg : Int)) == 0) = false) := by
    have := (hm.free hr).stale (r := (ri, rg)) (by simp)
    have e : (H.freed ((ri : Int), (rg : Int))).chk ((ri : Int), (rg : Int)) = 7 := this
    show _ = _
    rw [e]; rfl
  have MO := Lib.hid (And.intro he hk)
  clear hm he hk hy
  obtain ⟨w1, hw1⟩ : ∃ w1, w.alloc (.cells #[.int .u8 kind, .int .u8 I, .int .u8 K] 65) = w1 := ⟨_, rfl⟩
  have HW := Lib.hid hw1
  have hbt := Bk.new w 65 #[.int .u8 kind, .int .u8 I, .int .u8 K]
  have h1 := h.quiet (bel_new w (.cells #[.int .u8 kind, .int .u8 I, .int .u8 K] 65))
  rw [hw1] at hbt h1
  have H1 := Lib.hid h1
  have BT := Lib.hid hbt
  have m0 : w1.cell? ⟨mb, 0, none⟩ = some (.pointer (some ⟨b, 0, none⟩)) := h1.bm.cell 0
  have m2 : w1.cell? ⟨mb, 2, none⟩ = some (.slice pR qR cR) := h1.bm.cell 2
  have t0 : w1.cell? ⟨w.heap.size, 0, none⟩ = some (.int .u8 kind) := hbt.cell 0
  have t1 : w1.cell? ⟨w.heap.size, 1, none⟩ = some (.int .u8 I) := hbt.cell 1
  have t2 : w1.cell? ⟨w.heap.size, 2, none⟩ = some (.int .u8 K) := hbt.cell 2
  obtain ⟨g, rfl, hqc, hcm, _, _, hcl⟩ := row_at h1.rR h1.lR hq
  obtain ⟨r0, r1⟩ := hcl y (ri, rg) hr
  simp only at r0 r1
  have hyc : y < cR := by omega
  have NI : ¬ (qR : Int) = 0 := by omega
  clear h h1 hbt hw1 hcl hrm
  go_enter Try.func32, Try.ntmps32
  go_upto_region 1 with fail
  rw [HW.out]
  go_upto_region 14 with fail
  go_cut [11] from 98 to 117 (fun v11 wx => ∃ B11 : Nat, v11 = .pointer (some ⟨B11, 0, none⟩) ∧ Hid (Below w1.heap.size w1 wx ∧ Bk wx B11 34 #[.int .i64 ri, .int .u32 rg] ∧ w1.heap.size ≤ B11))
  case first =>
    go_wp2_with fail
    go_meet
    exact ⟨_, rfl, ⟨bel_new w1 _, Bk.new w1 _ _, Nat.le_refl _⟩⟩
  case rest =>
    obtain ⟨B11, rfl, HF⟩ := hcut
    obtain ⟨hB, hb11, hl11⟩ := HF.out
    have QB : Hid (∀ g, (Value.slice pQ qQ cQ).ownBlock = some g → g ≠ B11) := fun g hg e => by
      obtain ⟨_, _, hb⟩ := row_any H1.out.rQ hg
      have := hb.lt; omega
    have hM := H1.out.quiet hB
    have HM := Lib.hid hM
    have n0 : wc.cell? ⟨mb, 0, none⟩ = some (.pointer (some ⟨b, 0, none⟩)) := hM.bm.cell 0
    have n2 : wc.cell? ⟨mb, 2, none⟩ = some (.slice (some ⟨g, 0, none⟩) qR cR) := hM.bm.cell 2
    have b1 : mb < wc.heap.size := hM.bm.lt
    have hyc' : y ≤ cR := by omega
    have hyq1 : (y : Int) + 1 ≤ qR := by omega
    have hy0 : (0 : Int) ≤ (y : Int) + 1 := by omega
    have hwr : IntKind.i64.wrap ((y : Int) + 1) = y + 1 := by rw [IntKind.wrap_i64]; omega
    obtain ⟨v1, w2, p2, c2, w3, hrun1, hrun2, hrow, hbel1, hbel, hown⟩ := strike hM.rR hM.lR hyq hqk hM.st.bel.size
    obtain ⟨a2, ha2⟩ : ∃ a2, (if cR = y + 1 then some (⟨g, 0, none⟩ : Addr) else some ⟨g, (y + 1) * 2, none⟩) = a2 := ⟨_, rfl⟩
    rw [ha2] at hrun2
    have H3 : Hid (Mb w0 (w3.setCell ⟨mb, 2, none⟩ (.slice p2 (qR - 1) c2)) mb b p t M e H p2 (qR - 1) c2 (R.eraseIdx y) pQ qQ cQ Q N P) :=
      hM.rowR (Kept.of_below hbel) (by rw [List.length_eraseIdx, hM.lR, if_pos hyq]) hrow (.inr hown)
    have Hb11 : Hid (Bk (w3.setCell ⟨mb, 2, none⟩ (.slice p2 (qR - 1) c2)) B11 34 #[.int .i64 ri, .int .u32 rg]) := (hb11.below hbel).kept ((Kept.refl (· = mb) w3).put1 2 _) (hM.ref hb11).2.1
    have n2' : w2.cell? ⟨mb, 2, none⟩ = some (.slice (some ⟨g, 0, none⟩) qR cR) := (hM.bm.below hbel1).cell 2
    have hbm2 := hM.bm.below hbel
    have y2 := hbm2.cell 2
    have y3 := hbm2.frozen 2
    simp only [List.getElem?_toArray, List.getElem?_cons_zero, List.getElem?_cons_succ] at y2
    clear hM hB hb11 hbel hbel1 hown hrow hbm2 m0 m2 t0 t1 t2 r0 r1
    go_upto_region 15 with fail
    go_cut [11] from 118 to 136 (fun v11 wx => ∃ x : Nat, v11 = .pointer (some ⟨x, 0, none⟩) ∧ B11 = x ∧ ∃ (p2 : Option Addr) (c2 : Nat), Hid (Mb w0 wx mb b p t M e H p2 (qR - 1) c2 (R.eraseIdx y) pQ qQ cQ Q N P) ∧ Hid (Bk wx B11 34 #[.int .i64 ri, .int .u32 rg]))
    case first =>
      go_region_law (first | (refine step_append_run (by rfl) _ _ _ (by rfl) (by rfl) (by rfl) hrun1 ?_) | (refine step_append_run (by rfl) _ _ _ (by rfl) (by rfl) (by rfl) hrun2 ?_))
      all_goals
        go_wp2_with fail
        go_meet
        exact ⟨_, rfl, rfl, p2, c2, H3, Hb11⟩
    case rest =>
      clear H3 Hb11 hrun1 hrun2 y2 y3 n2' n0 n2 b1
      obtain ⟨_, rfl, rfl, p2, c2, HM3, HB3⟩ := hcut
      have n3 : wc.cell? ⟨mb, 3, none⟩ = some (.slice pQ qQ cQ) := HM3.out.bm.cell 3
      have b1 : mb < wc.heap.size := HM3.out.bm.lt
      have b3 : B11 < wc.heap.size := HB3.out.lt
      have c0 := HB3.out.cell 0
      have c1 := HB3.out.cell 1
      simp only [List.getElem?_toArray, List.getElem?_cons_zero, List.getElem?_cons_succ] at c0 c1
      obtain ⟨p4, c4, w10, hrun3, hrow, hkp, hfr⟩ := app_gone HM3.out ri rg hQk
      have hMx := HM3.out.quiet (w' := (wc.alloc (.cells #[.int .i64 (ri : Nat), .int .u32 (rg : Nat)] 34)).drew) (bel_drew (bel_new _ _))
      have hBx := HB3.out.below (b := (wc.alloc (.cells #[.int .i64 (ri : Nat), .int .u32 (rg : Nat)] 34)).drew) (bel_drew (bel_new _ _))
      have H10 : Hid (Mb w0 (w10.setCell ⟨mb, 3, none⟩ (.slice p4 (qQ + 1) c4)) mb b p t M e H p2 (qR - 1) c2 (R.eraseIdx y) p4 (qQ + 1) c4 (Q ++ [(ri, rg)]) N P) :=
        Mb.rowQ hMx hkp (by rw [List.length_append, HM3.out.lQ]; rfl) hrow hfr
      have hbm := hMx.bm
      have hbm2 := hbm.kept hkp fun e => by
        obtain ⟨_, _, hb⟩ := row_any HM3.out.rQ e
        exact (HM3.out.ref hb).2.1 rfl
      have y2 := hbm2.cell 3
      have y3 := hbm2.frozen 3
      simp only [List.getElem?_toArray, List.getElem?_cons_zero, List.getElem?_cons_succ] at y2
      have HB4 : Hid (Bk (w10.setCell ⟨mb, 3, none⟩ (.slice p4 (qQ + 1) c4)) B11 34 #[.int .i64 ri, .int .u32 rg]) := (hBx.kept hkp fun e => QB.out _ e rfl).kept ((Kept.refl (· = mb) w10).put1 3 _) (hMx.ref hBx).2.1
      clear hrow hkp hfr hbm hbm2 hMx hBx
      go_upto_region 16 with fail
      go_cut [11] from 137 to 146 (fun v11 wx => ∃ x : Nat, v11 = .pointer (some ⟨x, 0, none⟩) ∧ B11 = x ∧ wx = w10.setCell ⟨mb, 3, none⟩ (.slice p4 (qQ + 1) c4))
      case first =>
        go_region_law (refine step_append_run (by rfl) _ _ _ (by rfl) (by rfl) (by rfl) hrun3 ?_)
        all_goals
          go_wp2_with fail
          go_meet
          exact ⟨_, rfl, rfl, rfl⟩
      case rest =>
        obtain ⟨_, rfl, rfl, rfl⟩ := hcut
        clear hrun3 y2 y3 n3 b1 b3 c0 c1
        generalize w10.setCell ⟨mb, 3, none⟩ (.slice p4 (qQ + 1) c4) = W at *
        have KS : Hid (∀ X, Kept (HFoot b p t) W X → Kept (HFoot b p t) W X ∧ X.cell? ⟨mb, 0, none⟩ = some (.pointer (some ⟨b, 0, none⟩)) ∧ X.cell? ⟨B11, 0, none⟩ = some (.int .i64 ri) ∧ X.cell? ⟨B11, 1, none⟩ = some (.int .u32 rg)) := fun X hk => by
          have q1 := H10.out.bm.kept hk H10.out.fm
          have q2 := HB4.out.kept hk (H10.out.ref HB4.out).1
          exact ⟨hk, q1.cell 0, q2.cell 0, q2.cell 1⟩
        have HS0 : Hid (HSt w0 W.drew b p t H) := H10.out.st.quiet (bel_dr W)
        go_upto_region 17 with fail
        go_region_held3 (fun X => Kept (HFoot b p t) W X ∧ X.cell? ⟨mb, 0, none⟩ = some (.pointer (some ⟨b, 0, none⟩)) ∧ X.cell? ⟨B11, 0, none⟩ = some (.int .i64 ri) ∧ X.cell? ⟨B11, 1, none⟩ = some (.int .u32 rg)) (first | (with_reducible assumption) | exact KS.out _ (Kept.refl _ W).drew) (first
          | (go_at_call 16; refine (free_s _ _ 0 HS0.out MC.out).mono ?_; rintro e w5 ⟨rfl, hs5, hk5⟩; have HS5 := Lib.hid hs5; have hk55 := (Kept.refl _ W).drew.trans hk5; have HK5 := Lib.hid hk55; have hz5 := KS.out _ hk55; clear hs5 hk5 hk55)
          | (go_at_call 27; refine (has_s _ _ false HS5.out MS.out).mono ?_; rintro e w6 ⟨rfl, hb6⟩; have hk6 := HK5.out.trans (Kept.of_below hb6); have HM6 := Lib.hid (H10.out.heap hk6 (HS5.out.quiet hb6)); have hz6 := KS.out _ hk6; clear hb6 hk6))
        all_goals
          go_wp2
          go_ret
          exact ⟨rfl, _, _, _, _, _, _, _, _, _, _, _, _, _, _, _, HM6.out, MF.out, Nat.le_succ_of_le MO.out.1⟩
end Go.Proofs.Ytfnhkapbfgofkaa
