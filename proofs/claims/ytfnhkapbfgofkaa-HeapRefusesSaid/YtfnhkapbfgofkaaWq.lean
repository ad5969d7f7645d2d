/- The contract of the model's turn, where an object is made. -/
import Derived.Test.YtfnhkapbfgofkaaWp
import Derived.Test.YtfnhkapbfgofkaaWy
import Derived.Test.YtfnhkapbfgofkaaWs
import Derived.Deep.Cut
import Derived.Deep.CutBlock
import Derived.Laws.MakeOwn
import Derived.Deep.RegionLaw
namespace Go.Proofs.Ytfnhkapbfgofkaa
open Go.RowKit

theorem tmod_nat (m n : Nat) : (m : Int).tmod (n : Int) = ((m % n : Nat) : Int) := by
  rw [Int.tmod_eq_emod_of_nonneg (by omega)]; simp
/-- The model between its turns. -/
def Ms (w0 w : World) (mb b n f k : Nat) : Prop := ∃ p t M e H pR qR cR R pQ qQ cQ Q N P, Mb w0 w mb b p t M e H pR qR cR R pQ qQ cQ Q N P ∧ Mo H n f k R Q N ∧ e ≤ k
/-- append, by its run, as one step of a region that draws. -/
theorem step_append_run {P : Program} {ops : Array Oper} {o : Oper} {a : Act} {w w' : World} {K : Act → World → Prop} {Q : Exit → Act → World → Prop} {E : Prop} {sv xv v' : Value}
    (hg : o.guard = none) (s x : Operand) (t : TypeId) (hop : o.op = Op.call { callee := Callee.builtin Builtin.append, args := #[s, x], argTypes := #[t, t] })
    (hs : a.eval s = sv) (hx : a.eval x = xv) (hrun : (Builtin.append_ #[t, t] o.type #[sv, xv]).run P w = .ok v' w') (hK : K (a.put o.dst v') w') :
    if Region.wanted o (yielded ops a.tmps) = true then Oper.wp P o a w K Q else E := by
  have hw : Region.wanted o (yielded ops a.tmps) = true := by simp [Region.wanted, hg]
  rw [if_pos hw]
  unfold Oper.wp
  simp [execOp, hop, resolve, invoke, builtin, hs, hx, hrun, Result.andThen]
  exact hK
theorem app_row {w0 X : World} {pR : Option Addr} {qR cR x i g : Nat} {R : List (Nat × Nat)} (hr : X.ownsRow w0.heap.size 34 2 (.slice pR qR cR) qR (pairs R)) (hn : Bk X x 34 #[.int .i64 (i : Nat), .int .u32 (g : Nat)]) (hq : qR ≤ 300) (hb : w0.heap.size ≤ X.heap.size) :
    ∃ p2 c2 w', (Builtin.append_ #[32, 32] 32 #[.slice pR qR cR, .slice (some ⟨x, 0, none⟩) 1 1]).run Try.prog X = .ok (.slice p2 (qR + 1) c2) w' ∧
      w'.ownsRow w0.heap.size 34 2 (.slice p2 (qR + 1) c2) (qR + 1) (pairs (R ++ [(i, g)])) ∧ Kept (fun x => (Value.slice pR qR cR).ownBlock = some x) X w' ∧
      ((Value.slice p2 (qR + 1) c2).ownBlock = (Value.slice pR qR cR).ownBlock ∨ ∀ x, (Value.slice p2 (qR + 1) c2).ownBlock = some x → X.heap.size ≤ x) := by
  obtain ⟨j0, hj, hy0, hy1, hy2⟩ := info_parts info_ref
  obtain ⟨v', W', hrun, hown, hgr, _, hfr⟩ := run_append_own_at (P := Try.prog) X w0.heap.size 32 32 34 j0 _ 2 16 Try.underlying32 hj hy0 hy1 hy2 rfl (by decide) (.slice pR qR cR) qR (pairs R) hr ⟨x, 0, none⟩ 1 1 [.int .i64 (i : Nat), .int .u32 (g : Nat)] rfl (fun j u hj => by
      have e : (⟨x, 0, none⟩ : Addr).add j = ⟨x, j, none⟩ := by unfold Addr.add; split <;> simp_all
      rw [e, hn.cell]
      simpa using hj) (by simp [Value.oneCell']) (by unfold maxLen; omega) (by omega) hb
  obtain ⟨p2, c2, rfl⟩ := own_ref hown
  refine ⟨p2, c2, W', hrun, by rw [pairs_snoc]; exact hown, ⟨hgr.os, hgr.tape, hgr.output, hgr.size, fun k hk hs => hgr.block k hk fun e => hs e.symm⟩, hfr.imp id fun e y hy => ?_⟩
  rw [e] at hy
  exact Nat.le_of_eq (Option.some.inj hy)
/-- One name more behind those that are there. -/
theorem app_name {w0 w : World} {mb b p t M e : Nat} {H : Hp} {pR : Option Addr} {qR cR : Nat} {R : List (Nat × Nat)} {pQ : Option Addr} {qQ cQ : Nat} {Q : List (Nat × Nat)} {N : Nat × Nat → Option (List Rf)} {P : Pl} (h : Mb w0 w mb b p t M e H pR qR cR R pQ qQ cQ Q N P) (i g : Nat) (hq : qR ≤ 300) :
    ∃ p2 c2 w', (Builtin.append_ #[32, 32] 32 #[.slice pR qR cR, .slice (some ⟨w.heap.size, 0, none⟩) 1 1]).run Try.prog (w.alloc (.cells #[.int .i64 (i : Nat), .int .u32 (g : Nat)] 34)).drew = .ok (.slice p2 (qR + 1) c2) w' ∧
      w'.ownsRow w0.heap.size 34 2 (.slice p2 (qR + 1) c2) (qR + 1) (pairs (R ++ [(i, g)])) ∧ Kept (fun x => (Value.slice pR qR cR).ownBlock = some x) (w.alloc (.cells #[.int .i64 (i : Nat), .int .u32 (g : Nat)] 34)).drew w' ∧
      ((Value.slice p2 (qR + 1) c2).ownBlock = (Value.slice pR qR cR).ownBlock ∨ ∀ x, (Value.slice p2 (qR + 1) c2).ownBlock = some x → (w.alloc (.cells #[.int .i64 (i : Nat), .int .u32 (g : Nat)] 34)).drew.heap.size ≤ x) := by
  have hbn : Below w.heap.size w (w.alloc (.cells #[.int .i64 (i : Nat), .int .u32 (g : Nat)] 34)).drew := bel_drew (bel_new _ _)
  have hn : Bk (w.alloc (.cells #[.int .i64 (i : Nat), .int .u32 (g : Nat)] 34)).drew w.heap.size 34 #[.int .i64 (i : Nat), .int .u32 (g : Nat)] := Bk.new w _ _
  have h1 := h.quiet hbn
  generalize (w.alloc (.cells #[.int .i64 (i : Nat), .int .u32 (g : Nat)] 34)).drew = X at *
  exact app_row h1.rR hn hq h1.st.bel.size
theorem make_refs (W : World) (m : Nat) (hm : m ≤ 1000) : (Instr.makeSlice 32 (.int .i64 (m : Int)) (.int .i64 (m : Int))).run Try.prog W = .ok (.slice (some ⟨W.heap.size, 0, none⟩) m m) (W.alloc (.cells (rcls (List.replicate m (0, 0))).toArray 34)) := by
  obtain ⟨i0, hi0, hz0, hz1, hz2⟩ := info_parts info_ref
  have := run_make (P := Try.prog) W 32 34 i0 _ Try.underlying32 hi0 hz0 .i64 .i64 (m : Int) (m : Int) (by omega) (by omega) (by rw [hz2]; omega) (by omega)
  rw [this, Int.toNat_natCast, hz1]
  have e : madeCells (Value.agg #[.int .i64 0, .int .u32 0]).cells (m * 2) = (rcls (List.replicate m (0, 0))).toArray := by
    refine Array.ext_getElem? fun j => ?_
    by_cases hj : j < m * 2
    · obtain ⟨a, q, hq, ha, rfl⟩ : ∃ a q, q < 2 ∧ a < m ∧ j = a * 2 + q := ⟨j / 2, j % 2, by omega, by omega, by omega⟩
      have e1 : (rcls (List.replicate m ((0, 0) : Rf))).toArray[a * 2 + q]? = (rcl ((List.replicate m ((0, 0) : Rf))[a]'(by rw [List.length_replicate]; exact ha)))[q]? := by rw [List.getElem?_toArray]; exact rcls_at _ a (by rw [List.length_replicate]; exact ha) q hq
      rw [e1, List.getElem_replicate, Array.getElem?_eq_getElem (by rw [size_madeCells]; exact hj)]
      have e2 : (a * 2 + q) % 2 = q := by omega
      simp only [madeCells, Array.getElem_map, Array.getElem_range]
      show some ((#[Value.int .i64 0, Value.int .u32 0])[(a * 2 + q) % 2]!) = _
      rw [e2]
      match q, hq with
      | 0, _ => rfl
      | 1, _ => rfl
    · rw [Array.getElem?_eq_none (by rw [size_madeCells]; omega), Array.getElem?_eq_none (by rw [List.size_toArray, rcls_length, List.length_replicate]; omega)]
  rw [e]
/-- What is there behind the region that makes an object. -/
def Fin2 (w0 w1 W : World) (b p t B : Nat) (H : Hp) (q : Rf) : Prop := HSt w0 W b p t H ∧ Kept (HFoot b p t) w1 W ∧ Bk W B 34 (rfc q) ∧ w1.heap.size ≤ B
theorem st_box {w0 W : World} {b p t c : Nat} {H : Hp} (h : HSt w0 W b p t H) (hc : w0.heap.size ≤ c) (hb : ∃ cs, Bk W c 34 cs) (u v : Value) : HSt w0 ((W.setCell ⟨c, 0, none⟩ u).setCell ⟨c, 1, none⟩ v) b p t H := by
  obtain ⟨cs, hb⟩ := hb
  have k : Kept (· = c) W ((W.setCell ⟨c, 0, none⟩ u).setCell ⟨c, 1, none⟩ v) := ((Kept.refl _ W).put1 0 _).put1 1 _
  have hf := h.f.box hb (by decide) (by decide) (by decide)
  exact ⟨h.f.kept k fun g hg e => hf (by rw [← e]; exact hg), (h.bel.setCell (p := ⟨c, 0, none⟩) hc _).setCell (p := ⟨c, 1, none⟩) hc _, h.lo⟩
set_option maxHeartbeats 8000000 in
set_option maxRecDepth 100000 in
theorem turn_full0 {w0 w : World} {mb b p t M e n f k : Nat} {H : Hp} {pR : Option Addr} {qR cR : Nat} {R : List (Nat × Nat)} {pQ : Option Addr} {qQ cQ : Nat} {Q : List (Nat × Nat)} {N : Nat × Nat → Option (List Rf)} {P : Pl} (kind I K : Nat) (_ : kind ≤ 255) (_ : I ≤ 255) (_ : K ≤ 255)
    (h : Mb w0 w mb b p t M e H pR qR cR R pQ qQ cQ Q N P) (hm : Mo H n f k R Q N) (he : e ≤ k) (hk : k ≤ 200) (h2 : kind % 4 < 2) (h5 : I % 5 = 0) (hf : H.t.free = []) :
    Calls Try.prog 32 #[.pointer (some ⟨mb, 0, none⟩), .agg #[.int .u8 kind, .int .u8 I, .int .u8 K]] w fun e w' => e = .returned (.bool true) ∧ Hid (Ms w0 w' mb b n f (k + 1)) := by
  have hk4 : (kind : Int).tmod 4 = ((kind % 4 : Nat) : Int) := tmod_nat kind 4
  have hI5 : (I : Int).tmod 5 = ((I % 5 : Nat) : Int) := tmod_nat I 5
  have hK2 : (K : Int).tmod 2 = ((K % 2 : Nat) : Int) := tmod_nat K 2
  have l1 : I % 5 < 5 := Nat.mod_lt _ (by decide)
  generalize kind % 4 = k4 at *
  generalize I % 5 = m at *
  generalize K % 2 = k2 at *
  have h2i : (k4 : Int) < 2 := by omega
  have hm4 : (m : Int) ≤ 4 := by omega
  have hmb : ((m : Int) == 0) = true := by rw [h5]; rfl
  have MK : Hid (∀ hd : Bool, (hd = true → m = 0) → ∀ X, HSt w0 X b p t H → Calls Try.prog 14 #[.pointer (some ⟨b, 0, none⟩), .int .i64 m, .bool hd] X fun e w' => e = .returned (.tuple #[.agg #[.int .i64 0, .int .u32 0], .int .i64 4]) ∧ HSt w0 w' b p t H ∧ Kept (HFoot b p t) X w') := fun hd hh X hX => by
    obtain ⟨a1, a2, a3⟩ := Hp.make_full (H := H) (n := m) (hd := hd) (mk_poss (by omega) (by omega) (fun e => by rw [hh e]; rfl)) hf
    refine (make_s m hd _ _ ⟨by omega, by omega⟩ hX a2 a1).mono ?_
    rintro e w' ⟨h1, h2, h3⟩
    rw [a3] at h2
    exact ⟨h1, h2, h3⟩
  have LF : Hid (H.t.free.length = 0) := by rw [hf]; rfl
  have MO := Lib.hid (And.intro hm (And.intro he hk))
  obtain ⟨w1, hw1⟩ : ∃ w1, w.alloc (.cells #[.int .u8 kind, .int .u8 I, .int .u8 K] 65) = w1 := ⟨_, rfl⟩
  have HW := Lib.hid hw1
  have hbt := Bk.new w 65 #[.int .u8 kind, .int .u8 I, .int .u8 K]
  have h1 := h.quiet (bel_new w (.cells #[.int .u8 kind, .int .u8 I, .int .u8 K] 65))
  rw [hw1] at hbt h1
  have H1 := Lib.hid h1
  have BT := Lib.hid hbt
  have m0 : w1.cell? ⟨mb, 0, none⟩ = some (.pointer (some ⟨b, 0, none⟩)) := h1.bm.cell 0
  have m2 : w1.cell? ⟨mb, 2, none⟩ = some (.slice pR qR cR) := h1.bm.cell 2
  have t0 : w1.cell? ⟨w.heap.size, 0, none⟩ = some (.int .u8 kind) := hbt.cell 0
  have t1 : w1.cell? ⟨w.heap.size, 1, none⟩ = some (.int .u8 I) := hbt.cell 1
  have t2 : w1.cell? ⟨w.heap.size, 2, none⟩ = some (.int .u8 K) := hbt.cell 2
  clear hm he hk h2
  have hfm := h1.fm
  have hft : ¬ HFoot b p t w.heap.size := h1.st.f.box hbt (by decide) (by decide) (by decide)
  have Z0 : Hid (HSt w0 w1.drew b p t H) := h1.st.quiet (bel_dr w1)
  have ZL : Hid (w0.heap.size ≤ w1.heap.size ∧ ∀ g, HFoot b p t g → g < w1.heap.size) := ⟨h1.st.bel.size, fun g hg => h1.st.f.foot_lt hg⟩
  have ZC : Hid (∀ X, Kept (HFoot b p t) w1 X → X.cell? ⟨mb, 0, none⟩ = some (.pointer (some ⟨b, 0, none⟩)) ∧ X.cell? ⟨w.heap.size, 1, none⟩ = some (.int .u8 I) ∧ X.cell? ⟨w.heap.size, 2, none⟩ = some (.int .u8 K)) := fun X hk => by
    have q1 := h1.bm.kept hk hfm
    have q2 := hbt.kept hk hft
    exact ⟨q1.cell 0, q2.cell 1, q2.cell 2⟩
  have A5 := Lib.hid hI5
  have A2 := Lib.hid hK2
  have AM := Lib.hid hmb
  clear h h1 hfm hft hbt hw1
  go_enter Try.func32, Try.ntmps32
  go_upto_region 1 with fail
  rw [HW.out]
  go_upto_region 3 with fail
  go_cut [6, 7] from 28 to 49 (fun v6 v7 wx => ∃ (B6 : Nat) (hd0 : Bool), v6 = .pointer (some ⟨B6, 0, none⟩) ∧ v7 = .int .i64 4 ∧ (hd0 = true → m = 0) ∧ Hid (Fin2 w0 w1 wx b p t B6 H (0, 0)))
  case first =>
    refine ra_region mb b w.heap.size I K m k2 A5.out A2.out hm4 AM.out (S := HFoot b p t) (Z1 := fun X => HSt w0 X b p t H) (Z2 := fun X => HSt w0 X b p t H) (0, 0) 4 rfl rfl rfl Z0.out (fun _ _ h => h.quiet (bel_new _ _)) (fun _ _ h => h.quiet (bel_new _ _)) (fun X c u v hc hb h => st_box h (Nat.le_trans ZL.out.1 hc) hb u v) ZL.out.2 ZC.out (fun X hX => MK.out _ (by exact fun _ => h5) X hX) ?_
    intro us B6 wx hk hz hb hl hu
    simp [frm, List.range, List.range.loop, raD, raH, hu]
    go_wp2_with fail
    go_meet
    exact ⟨B6, ((k2 : Int) == 1), rfl, rfl, (by exact fun _ => h5), hz, hk, hb, hl⟩
  case rest =>
    obtain ⟨B6, hd0, rfl, rfl, hd1, HF⟩ := hcut
    obtain ⟨hS, hK, hB, hc⟩ := HF.out
    have HM := Lib.hid (H1.out.heap hK hS)
    have m0' : wc.cell? ⟨mb, 0, none⟩ = some (.pointer (some ⟨b, 0, none⟩)) := HM.out.bm.cell 0
    have HB := Lib.hid hB
    have HS := Lib.hid hS
    clear hS hK hB hc m0 m2 t0 t1 t2
    go_wp2_with (go_at_call 30; refine (left_s 0 HS.out LF.out).mono ?_; rintro e w7 ⟨rfl, hb⟩; have HM7 := Lib.hid (HM.out.quiet hb); obtain ⟨c0, c1⟩ := (HB.out.below hb).rf; simp only at c0 c1; clear hb)
    go_ret
    exact ⟨rfl, _, _, _, _, _, _, _, _, _, _, _, _, _, _, _, HM7.out, MO.out.1.keep, Nat.le_succ_of_le MO.out.2.1⟩
set_option maxHeartbeats 8000000 in
set_option maxRecDepth 100000 in
theorem turn_full1 {w0 w : World} {mb b p t M e n f k : Nat} {H : Hp} {pR : Option Addr} {qR cR : Nat} {R : List (Nat × Nat)} {pQ : Option Addr} {qQ cQ : Nat} {Q : List (Nat × Nat)} {N : Nat × Nat → Option (List Rf)} {P : Pl} (kind I K : Nat) (_ : kind ≤ 255) (_ : I ≤ 255) (_ : K ≤ 255)
    (h : Mb w0 w mb b p t M e H pR qR cR R pQ qQ cQ Q N P) (hm : Mo H n f k R Q N) (he : e ≤ k) (hk : k ≤ 200) (h2 : kind % 4 < 2) (h5 : I % 5 ≠ 0) (hf : H.t.free = []) :
    Calls Try.prog 32 #[.pointer (some ⟨mb, 0, none⟩), .agg #[.int .u8 kind, .int .u8 I, .int .u8 K]] w fun e w' => e = .returned (.bool true) ∧ Hid (Ms w0 w' mb b n f (k + 1)) := by
  have hk4 : (kind : Int).tmod 4 = ((kind % 4 : Nat) : Int) := tmod_nat kind 4
  have hI5 : (I : Int).tmod 5 = ((I % 5 : Nat) : Int) := tmod_nat I 5
  have hK2 : (K : Int).tmod 2 = ((K % 2 : Nat) : Int) := tmod_nat K 2
  have l1 : I % 5 < 5 := Nat.mod_lt _ (by decide)
  generalize kind % 4 = k4 at *
  generalize I % 5 = m at *
  generalize K % 2 = k2 at *
  have h2i : (k4 : Int) < 2 := by omega
  have hm4 : (m : Int) ≤ 4 := by omega
  have hmb : ((m : Int) == 0) = false := by simpa using h5
  have MK : Hid (∀ hd : Bool, (hd = true → m = 0) → ∀ X, HSt w0 X b p t H → Calls Try.prog 14 #[.pointer (some ⟨b, 0, none⟩), .int .i64 m, .bool hd] X fun e w' => e = .returned (.tuple #[.agg #[.int .i64 0, .int .u32 0], .int .i64 4]) ∧ HSt w0 w' b p t H ∧ Kept (HFoot b p t) X w') := fun hd hh X hX => by
    obtain ⟨a1, a2, a3⟩ := Hp.make_full (H := H) (n := m) (hd := hd) (mk_poss (by omega) (by omega) (fun e => by rw [hh e]; rfl)) hf
    refine (make_s m hd _ _ ⟨by omega, by omega⟩ hX a2 a1).mono ?_
    rintro e w' ⟨h1, h2, h3⟩
    rw [a3] at h2
    exact ⟨h1, h2, h3⟩
  have LF : Hid (H.t.free.length = 0) := by rw [hf]; rfl
  have MO := Lib.hid (And.intro hm (And.intro he hk))
  obtain ⟨w1, hw1⟩ : ∃ w1, w.alloc (.cells #[.int .u8 kind, .int .u8 I, .int .u8 K] 65) = w1 := ⟨_, rfl⟩
  have HW := Lib.hid hw1
  have hbt := Bk.new w 65 #[.int .u8 kind, .int .u8 I, .int .u8 K]
  have h1 := h.quiet (bel_new w (.cells #[.int .u8 kind, .int .u8 I, .int .u8 K] 65))
  rw [hw1] at hbt h1
  have H1 := Lib.hid h1
  have BT := Lib.hid hbt
  have m0 : w1.cell? ⟨mb, 0, none⟩ = some (.pointer (some ⟨b, 0, none⟩)) := h1.bm.cell 0
  have m2 : w1.cell? ⟨mb, 2, none⟩ = some (.slice pR qR cR) := h1.bm.cell 2
  have t0 : w1.cell? ⟨w.heap.size, 0, none⟩ = some (.int .u8 kind) := hbt.cell 0
  have t1 : w1.cell? ⟨w.heap.size, 1, none⟩ = some (.int .u8 I) := hbt.cell 1
  have t2 : w1.cell? ⟨w.heap.size, 2, none⟩ = some (.int .u8 K) := hbt.cell 2
  clear hm he hk h2
  have hfm := h1.fm
  have hft : ¬ HFoot b p t w.heap.size := h1.st.f.box hbt (by decide) (by decide) (by decide)
  have Z0 : Hid (HSt w0 w1.drew b p t H) := h1.st.quiet (bel_dr w1)
  have ZL : Hid (w0.heap.size ≤ w1.heap.size ∧ ∀ g, HFoot b p t g → g < w1.heap.size) := ⟨h1.st.bel.size, fun g hg => h1.st.f.foot_lt hg⟩
  have ZC : Hid (∀ X, Kept (HFoot b p t) w1 X → X.cell? ⟨mb, 0, none⟩ = some (.pointer (some ⟨b, 0, none⟩)) ∧ X.cell? ⟨w.heap.size, 1, none⟩ = some (.int .u8 I) ∧ X.cell? ⟨w.heap.size, 2, none⟩ = some (.int .u8 K)) := fun X hk => by
    have q1 := h1.bm.kept hk hfm
    have q2 := hbt.kept hk hft
    exact ⟨q1.cell 0, q2.cell 1, q2.cell 2⟩
  have A5 := Lib.hid hI5
  have A2 := Lib.hid hK2
  have AM := Lib.hid hmb
  clear h h1 hfm hft hbt hw1
  go_enter Try.func32, Try.ntmps32
  go_upto_region 1 with fail
  rw [HW.out]
  go_upto_region 3 with fail
  go_cut [6, 7] from 28 to 49 (fun v6 v7 wx => ∃ (B6 : Nat) (hd0 : Bool), v6 = .pointer (some ⟨B6, 0, none⟩) ∧ v7 = .int .i64 4 ∧ (hd0 = true → m = 0) ∧ Hid (Fin2 w0 w1 wx b p t B6 H (0, 0)))
  case first =>
    refine rb_region mb b w.heap.size I K m k2 A5.out A2.out hm4 AM.out (S := HFoot b p t) (Z1 := fun X => HSt w0 X b p t H) (Z2 := fun X => HSt w0 X b p t H) (0, 0) 4 rfl rfl rfl Z0.out (fun _ _ h => h.quiet (bel_new _ _)) (fun _ _ h => h.quiet (bel_new _ _)) (fun X c u v hc hb h => st_box h (Nat.le_trans ZL.out.1 hc) hb u v) ZL.out.2 ZC.out (fun X hX => MK.out _ (by (intro e; cases e)) X hX) ?_
    intro us B6 wx hk hz hb hl hu
    simp [frm, List.range, List.range.loop, rbD, rbH, hu]
    go_wp2_with fail
    go_meet
    exact ⟨B6, false, rfl, rfl, (by (intro e; cases e)), hz, hk, hb, hl⟩
  case rest =>
    obtain ⟨B6, hd0, rfl, rfl, hd1, HF⟩ := hcut
    obtain ⟨hS, hK, hB, hc⟩ := HF.out
    have HM := Lib.hid (H1.out.heap hK hS)
    have m0' : wc.cell? ⟨mb, 0, none⟩ = some (.pointer (some ⟨b, 0, none⟩)) := HM.out.bm.cell 0
    have HB := Lib.hid hB
    have HS := Lib.hid hS
    clear hS hK hB hc m0 m2 t0 t1 t2
    go_wp2_with (go_at_call 30; refine (left_s 0 HS.out LF.out).mono ?_; rintro e w7 ⟨rfl, hb⟩; have HM7 := Lib.hid (HM.out.quiet hb); obtain ⟨c0, c1⟩ := (HB.out.below hb).rf; simp only at c0 c1; clear hb)
    go_ret
    exact ⟨rfl, _, _, _, _, _, _, _, _, _, _, _, _, _, _, _, HM7.out, MO.out.1.keep, Nat.le_succ_of_le MO.out.2.1⟩
set_option maxHeartbeats 8000000 in
set_option maxRecDepth 100000 in
theorem turn_made0 {w0 w : World} {mb b p t M e n f k : Nat} {H : Hp} {pR : Option Addr} {qR cR : Nat} {R : List (Nat × Nat)} {pQ : Option Addr} {qQ cQ : Nat} {Q : List (Nat × Nat)} {N : Nat × Nat → Option (List Rf)} {P : Pl} (kind I K : Nat) (_ : kind ≤ 255) (_ : I ≤ 255) (_ : K ≤ 255)
    (h : Mb w0 w mb b p t M e H pR qR cR R pQ qQ cQ Q N P) (hm : Mo H n f k R Q N) (he : e ≤ k) (hk : k ≤ 200) (h2 : kind % 4 < 2) (h5 : I % 5 = 0) {i : Nat} {rr : List Nat} (hf : H.t.free = i :: rr) :
    Calls Try.prog 32 #[.pointer (some ⟨mb, 0, none⟩), .agg #[.int .u8 kind, .int .u8 I, .int .u8 K]] w fun e w' => e = .returned (.bool true) ∧ Hid (Ms w0 w' mb b n f (k + 1)) := by
  have hk4 : (kind : Int).tmod 4 = ((kind % 4 : Nat) : Int) := tmod_nat kind 4
  have hI5 : (I : Int).tmod 5 = ((I % 5 : Nat) : Int) := tmod_nat I 5
  have hK2 : (K : Int).tmod 2 = ((K % 2 : Nat) : Int) := tmod_nat K 2
  have l1 : I % 5 < 5 := Nat.mod_lt _ (by decide)
  generalize kind % 4 = k4 at *
  generalize I % 5 = m at *
  generalize K % 2 = k2 at *
  have h2i : (k4 : Int) < 2 := by omega
  have hm4 : (m : Int) ≤ 4 := by omega
  have hmb : ((m : Int) == 0) = true := by rw [h5]; rfl
  have MK : Hid (∀ hd : Bool, (hd = true → m = 0) → ∀ X, HSt w0 X b p t H → Calls Try.prog 14 #[.pointer (some ⟨b, 0, none⟩), .int .i64 m, .bool hd] X fun e w' => e = .returned (.tuple #[.agg #[.int .i64 i, .int .u32 (H.t.g i)], .int .i64 0]) ∧ HSt w0 w' b p t ⟨H.t.took i, putO H.o i (mk m hd)⟩ ∧ Kept (HFoot b p t) X w') := fun hd hh X hX => by
    obtain ⟨a1, a2, a3⟩ := Hp.make_yes (H := H) (n := m) (hd := hd) (mk_poss (by omega) (by omega) (fun e => by rw [hh e]; rfl)) hf
    refine (make_s m hd _ _ ⟨by omega, by omega⟩ hX a2 a1).mono ?_
    rintro e w' ⟨h1, h2, h3⟩
    rw [a3] at h2
    exact ⟨h1, h2, h3⟩
  have MW : Hid (∀ hd0 : Bool, (hd0 = true → m = 0) → Mo ⟨H.t.took i, putO H.o i (mk m hd0)⟩ n f (k + 1) (R ++ [(i, H.t.g i)]) Q (setN N (i, H.t.g i) (List.replicate m (0, 0)))) := fun hd0 hh => by
    have := hm.make (m := m) (b := hd0) hf (mk_poss (by omega) (by omega) (fun e => by rw [hh e]; rfl))
    rw [flds_mk (by omega) (by omega), Int.toNat_natCast] at this
    exact this
  have NW : Hid (P (i, H.t.g i) = none) := by
    have h0 := hm.new (Tb.free_lt hf).2
    cases c : P (i, H.t.g i) with
    | none => rfl
    | some x =>
      obtain ⟨x, l⟩ := x
      obtain ⟨L, h1, _⟩ := h.fd.yes _ _ _ c
      rw [h0] at h1; cases h1
  have RG : Hid (RgR i (H.t.g i)) := ⟨by have := (Tb.free_lt hf).1; have := hm.ok.t.hi; omega, hm.ok.t.gm i⟩
  have RL : Hid (R.length = qR ∧ R.length ≤ k) := ⟨h.lR, hm.rl⟩
  have MO := Lib.hid (And.intro hm (And.intro he hk))
  obtain ⟨w1, hw1⟩ : ∃ w1, w.alloc (.cells #[.int .u8 kind, .int .u8 I, .int .u8 K] 65) = w1 := ⟨_, rfl⟩
  have HW := Lib.hid hw1
  have hbt := Bk.new w 65 #[.int .u8 kind, .int .u8 I, .int .u8 K]
  have h1 := h.quiet (bel_new w (.cells #[.int .u8 kind, .int .u8 I, .int .u8 K] 65))
  rw [hw1] at hbt h1
  have H1 := Lib.hid h1
  have BT := Lib.hid hbt
  have m0 : w1.cell? ⟨mb, 0, none⟩ = some (.pointer (some ⟨b, 0, none⟩)) := h1.bm.cell 0
  have m2 : w1.cell? ⟨mb, 2, none⟩ = some (.slice pR qR cR) := h1.bm.cell 2
  have t0 : w1.cell? ⟨w.heap.size, 0, none⟩ = some (.int .u8 kind) := hbt.cell 0
  have t1 : w1.cell? ⟨w.heap.size, 1, none⟩ = some (.int .u8 I) := hbt.cell 1
  have t2 : w1.cell? ⟨w.heap.size, 2, none⟩ = some (.int .u8 K) := hbt.cell 2
  clear hm he hk h2
  have hfm := h1.fm
  have hft : ¬ HFoot b p t w.heap.size := h1.st.f.box hbt (by decide) (by decide) (by decide)
  have Z0 : Hid (HSt w0 w1.drew b p t H) := h1.st.quiet (bel_dr w1)
  have ZL : Hid (w0.heap.size ≤ w1.heap.size ∧ ∀ g, HFoot b p t g → g < w1.heap.size) := ⟨h1.st.bel.size, fun g hg => h1.st.f.foot_lt hg⟩
  have ZC : Hid (∀ X, Kept (HFoot b p t) w1 X → X.cell? ⟨mb, 0, none⟩ = some (.pointer (some ⟨b, 0, none⟩)) ∧ X.cell? ⟨w.heap.size, 1, none⟩ = some (.int .u8 I) ∧ X.cell? ⟨w.heap.size, 2, none⟩ = some (.int .u8 K)) := fun X hk => by
    have q1 := h1.bm.kept hk hfm
    have q2 := hbt.kept hk hft
    exact ⟨q1.cell 0, q2.cell 1, q2.cell 2⟩
  have A5 := Lib.hid hI5
  have A2 := Lib.hid hK2
  have AM := Lib.hid hmb
  clear h h1 hfm hft hbt hw1
  go_enter Try.func32, Try.ntmps32
  go_upto_region 1 with fail
  rw [HW.out]
  go_upto_region 3 with fail
  go_cut [6, 7] from 28 to 49 (fun v6 v7 wx => ∃ (B6 : Nat) (hd0 : Bool), v6 = .pointer (some ⟨B6, 0, none⟩) ∧ v7 = .int .i64 0 ∧ (hd0 = true → m = 0) ∧ Hid (Fin2 w0 w1 wx b p t B6 ⟨H.t.took i, putO H.o i (mk m hd0)⟩ ((i : Int), (H.t.g i : Int))))
  case first =>
    refine ra_region mb b w.heap.size I K m k2 A5.out A2.out hm4 AM.out (S := HFoot b p t) (Z1 := fun X => HSt w0 X b p t H) (Z2 := fun X => HSt w0 X b p t ⟨H.t.took i, putO H.o i (mk m ((k2 : Int) == 1))⟩) ((i : Int), (H.t.g i : Int)) 0 rfl rfl rfl Z0.out (fun _ _ h => h.quiet (bel_new _ _)) (fun _ _ h => h.quiet (bel_new _ _)) (fun X c u v hc hb h => st_box h (Nat.le_trans ZL.out.1 hc) hb u v) ZL.out.2 ZC.out (fun X hX => MK.out _ (by exact fun _ => h5) X hX) ?_
    intro us B6 wx hk hz hb hl hu
    simp [frm, List.range, List.range.loop, raD, raH, hu]
    go_wp2_with fail
    go_meet
    exact ⟨B6, ((k2 : Int) == 1), rfl, rfl, (by exact fun _ => h5), hz, hk, hb, hl⟩
  case rest =>
    obtain ⟨B6, hd0, rfl, rfl, hd1, HF⟩ := hcut
    clear h5 hmb
    obtain ⟨hS, hK, hB, hc⟩ := HF.out
    have hM := H1.out.heap hK hS
    have HM := Lib.hid hM
    have n0 : wc.cell? ⟨mb, 0, none⟩ = some (.pointer (some ⟨b, 0, none⟩)) := hM.bm.cell 0
    have n1 : wc.cell? ⟨mb, 1, none⟩ = some (.map (some M)) := hM.bm.cell 1
    have n2 : wc.cell? ⟨mb, 2, none⟩ = some (.slice pR qR cR) := hM.bm.cell 2
    have hbt2 := BT.out.kept hK (H1.out.st.f.box BT.out (by decide) (by decide) (by decide))
    have BT2 := Lib.hid hbt2
    have t1' : wc.cell? ⟨w.heap.size, 1, none⟩ = some (.int .u8 I) := hbt2.cell 1
    obtain ⟨c0, c1⟩ := hB.rf
    simp only at c0 c1
    have HB := Lib.hid hB
    have HS := Lib.hid hS
    have lk : ∀ W : World, W.heap = wc.heap → (Instr.lookup 66 (.map (some M)) (.agg #[.int .i64 (i : Nat), .int .u32 (H.t.g i : Nat)]) true).run Try.prog W = .ok (.tuple #[.slice none 0 0, .bool false]) W := fun W hW => by
      have := (MapF.same (w' := W) hM.mp (by rw [hW])).look_ok RG.out
      rw [NW.out] at this
      exact this
    have lk1 := lk wc.drew rfl
    have lk2 : ∀ n, _ := fun n => lk (wc.drewN n) rfl
    have lk0 := lk wc rfl
    have LK := Lib.hid lk
    clear hS hK hB hc m0 m2 t0 t1 t2 hM hbt2 lk
    generalize hgi : H.t.g i = gi at *
    go_upto_region 6 with fail
    go_quiet (fail)
    go_upto_region 7 with fail
    generalize hwd : wc.drewN _ = wd
    have hd : Below wc.heap.size wc wd := by rw [← hwd]; exact bel_drn wc _
    have hMd := HM.out.quiet hd
    have n0 : wd.cell? ⟨mb, 0, none⟩ = some (.pointer (some ⟨b, 0, none⟩)) := hMd.bm.cell 0
    have n1 : wd.cell? ⟨mb, 1, none⟩ = some (.map (some M)) := hMd.bm.cell 1
    have n2 : wd.cell? ⟨mb, 2, none⟩ = some (.slice pR qR cR) := hMd.bm.cell 2
    have t1' : wd.cell? ⟨w.heap.size, 1, none⟩ = some (.int .u8 I) := (BT2.out.below hd).cell 1
    have hBd := HB.out.below hd
    obtain ⟨c0, c1⟩ := hBd.rf
    simp only at c0 c1
    have b1 : mb < wd.heap.size := hMd.bm.lt
    have b2 : w.heap.size < wd.heap.size := (BT2.out.below hd).lt
    have b3 : B6 < wd.heap.size := hBd.lt
    have HMd := Lib.hid hMd
    have HBd := Lib.hid hBd
    have hwm : IntKind.i64.wrap (m : Int) = m := by rw [IntKind.wrap_i64]; omega
    obtain ⟨i0, hi0, hz0, hz1, hz2⟩ := info_parts info_ref
    have mks : ∀ W : World, (Instr.makeSlice 32 (.int .i64 (m : Int)) (.int .i64 (m : Int))).run Try.prog W = .ok (.slice (some ⟨W.heap.size, 0, none⟩) m m) (W.alloc (.cells (rcls (List.replicate m (0, 0))).toArray 34)) := fun W => make_refs W m (by omega)
    obtain ⟨w9, hrun, hm9, hk9⟩ := MapF.store (w := (wd.alloc (.cells (rcls (List.replicate m (0, 0))).toArray 34)).drew) (MapF.same (HMd.out.quiet (bel_new wd (.cells (rcls (List.replicate m (0, 0))).toArray 34))).mp rfl) (i := i) (g := gi) RG.out (by have := MO.out.2.1; have := MO.out.2.2; unfold maxLen; omega) wd.heap.size m (by omega)
    have H9 : Hid (Mb w0 w9 mb b p t M (e + 1) ⟨H.t.took i, putO H.o i (mk m hd0)⟩ pR qR cR R pQ qQ cQ Q (setN N (i, gi) (List.replicate m (0, 0))) (setP P (i, gi) wd.heap.size m) ∧ Bk w9 B6 34 (rfc ((i : Int), (gi : Int))) ∧ Bk w9 w.heap.size 65 #[.int .u8 kind, .int .u8 I, .int .u8 K]) := by
      have hbn : Below wd.heap.size wd (wd.alloc (.cells (rcls (List.replicate m (0, 0))).toArray 34)).drew := bel_drew (bel_new _ _)
      have := HMd.out.mapS (L := List.replicate m (0, 0)) (r := (i, gi)) rfl hbn (Bk.new wd _ _) hk9 (by rw [List.length_replicate]; exact hm9) RG.out
      rw [List.length_replicate] at this
      refine ⟨this, (HBd.out.below hbn).kept hk9 (HMd.out.ref HBd.out).2.2, ((BT2.out.below hd).below hbn).kept hk9 fun e => ?_⟩
      have := (BT2.out.below hd); rw [e] at this
      exact HMd.out.mp.no_cells this
    clear hMd hBd hm9 hk9 lk0 lk1 lk2 hd hwd
    clear LK
    go_region
    clear mks hrun n0 n1 n2 t1' c0 c1 b1 b2 b3
    have hM9 := H9.out.1
    have n0 : w9.cell? ⟨mb, 0, none⟩ = some (.pointer (some ⟨b, 0, none⟩)) := hM9.bm.cell 0
    have n2 : w9.cell? ⟨mb, 2, none⟩ = some (.slice pR qR cR) := hM9.bm.cell 2
    obtain ⟨c0, c1⟩ := H9.out.2.1.rf
    simp only at c0 c1
    have b1 : mb < w9.heap.size := hM9.bm.lt
    have b3 : B6 < w9.heap.size := H9.out.2.1.lt
    have hqk : qR ≤ 300 := by have := RL.out.1; have := RL.out.2; have := MO.out.2.2; omega
    obtain ⟨p2, c2, w10, hrun, hrow, hkp, hfr⟩ := app_name hM9 i gi hqk
    have H10 : Hid (Mb w0 (w10.setCell ⟨mb, 2, none⟩ (.slice p2 (qR + 1) c2)) mb b p t M (e + 1) ⟨H.t.took i, putO H.o i (mk m hd0)⟩ p2 (qR + 1) c2 (R ++ [(i, gi)]) pQ qQ cQ Q (setN N (i, gi) (List.replicate m (0, 0))) (setP P (i, gi) wd.heap.size m)) :=
      Mb.rowR (hM9.quiet (w' := (w9.alloc (.cells #[.int .i64 (i : Nat), .int .u32 (gi : Nat)] 34)).drew) (bel_drew (bel_new _ _))) hkp (by rw [List.length_append, hM9.lR]; rfl) hrow hfr
    have hbm := (hM9.quiet (w' := (w9.alloc (.cells #[.int .i64 (i : Nat), .int .u32 (gi : Nat)] 34)).drew) (bel_drew (bel_new _ _))).bm
    have hbm2 := hbm.kept hkp fun e => by
      obtain ⟨_, _, hb⟩ := row_any hM9.rR e
      exact (hM9.ref hb).2.1 rfl
    have y2 := hbm2.cell 2
    have y3 := hbm2.frozen 2
    simp only [List.getElem?_toArray, List.getElem?_cons_zero, List.getElem?_cons_succ] at y2
    clear hM9 hrow hkp hfr hbm hbm2
    go_upto_region 8 with fail
    go_region_law (refine step_append_run (by rfl) _ _ _ (by rfl) (by rfl) (by rfl) hrun ?_)
    all_goals
      go_wp2
      go_ret
      exact ⟨rfl, _, _, _, _, _, _, _, _, _, _, _, _, _, _, _, H10.out, MW.out hd0 hd1, Nat.succ_le_succ MO.out.2.1⟩
set_option maxHeartbeats 8000000 in
set_option maxRecDepth 100000 in
theorem turn_made1 {w0 w : World} {mb b p t M e n f k : Nat} {H : Hp} {pR : Option Addr} {qR cR : Nat} {R : List (Nat × Nat)} {pQ : Option Addr} {qQ cQ : Nat} {Q : List (Nat × Nat)} {N : Nat × Nat → Option (List Rf)} {P : Pl} (kind I K : Nat) (_ : kind ≤ 255) (_ : I ≤ 255) (_ : K ≤ 255)
    (h : Mb w0 w mb b p t M e H pR qR cR R pQ qQ cQ Q N P) (hm : Mo H n f k R Q N) (he : e ≤ k) (hk : k ≤ 200) (h2 : kind % 4 < 2) (h5 : I % 5 ≠ 0) {i : Nat} {rr : List Nat} (hf : H.t.free = i :: rr) :
    Calls Try.prog 32 #[.pointer (some ⟨mb, 0, none⟩), .agg #[.int .u8 kind, .int .u8 I, .int .u8 K]] w fun e w' => e = .returned (.bool true) ∧ Hid (Ms w0 w' mb b n f (k + 1)) := by
  have hk4 : (kind : Int).tmod 4 = ((kind % 4 : Nat) : Int) := tmod_nat kind 4
  have hI5 : (I : Int).tmod 5 = ((I % 5 : Nat) : Int) := tmod_nat I 5
  have hK2 : (K : Int).tmod 2 = ((K % 2 : Nat) : Int) := tmod_nat K 2
  have l1 : I % 5 < 5 := Nat.mod_lt _ (by decide)
  generalize kind % 4 = k4 at *
  generalize I % 5 = m at *
  generalize K % 2 = k2 at *
  have h2i : (k4 : Int) < 2 := by omega
  have hm4 : (m : Int) ≤ 4 := by omega
  have hmb : ((m : Int) == 0) = false := by simpa using h5
  have MK : Hid (∀ hd : Bool, (hd = true → m = 0) → ∀ X, HSt w0 X b p t H → Calls Try.prog 14 #[.pointer (some ⟨b, 0, none⟩), .int .i64 m, .bool hd] X fun e w' => e = .returned (.tuple #[.agg #[.int .i64 i, .int .u32 (H.t.g i)], .int .i64 0]) ∧ HSt w0 w' b p t ⟨H.t.took i, putO H.o i (mk m hd)⟩ ∧ Kept (HFoot b p t) X w') := fun hd hh X hX => by
    obtain ⟨a1, a2, a3⟩ := Hp.make_yes (H := H) (n := m) (hd := hd) (mk_poss (by omega) (by omega) (fun e => by rw [hh e]; rfl)) hf
    refine (make_s m hd _ _ ⟨by omega, by omega⟩ hX a2 a1).mono ?_
    rintro e w' ⟨h1, h2, h3⟩
    rw [a3] at h2
    exact ⟨h1, h2, h3⟩
  have MW : Hid (∀ hd0 : Bool, (hd0 = true → m = 0) → Mo ⟨H.t.took i, putO H.o i (mk m hd0)⟩ n f (k + 1) (R ++ [(i, H.t.g i)]) Q (setN N (i, H.t.g i) (List.replicate m (0, 0)))) := fun hd0 hh => by
    have := hm.make (m := m) (b := hd0) hf (mk_poss (by omega) (by omega) (fun e => by rw [hh e]; rfl))
    rw [flds_mk (by omega) (by omega), Int.toNat_natCast] at this
    exact this
  have NW : Hid (P (i, H.t.g i) = none) := by
    have h0 := hm.new (Tb.free_lt hf).2
    cases c : P (i, H.t.g i) with
    | none => rfl
    | some x =>
      obtain ⟨x, l⟩ := x
      obtain ⟨L, h1, _⟩ := h.fd.yes _ _ _ c
      rw [h0] at h1; cases h1
  have RG : Hid (RgR i (H.t.g i)) := ⟨by have := (Tb.free_lt hf).1; have := hm.ok.t.hi; omega, hm.ok.t.gm i⟩
  have RL : Hid (R.length = qR ∧ R.length ≤ k) := ⟨h.lR, hm.rl⟩
  have MO := Lib.hid (And.intro hm (And.intro he hk))
  obtain ⟨w1, hw1⟩ : ∃ w1, w.alloc (.cells #[.int .u8 kind, .int .u8 I, .int .u8 K] 65) = w1 := ⟨_, rfl⟩
  have HW := Lib.hid hw1
  have hbt := Bk.new w 65 #[.int .u8 kind, .int .u8 I, .int .u8 K]
  have h1 := h.quiet (bel_new w (.cells #[.int .u8 kind, .int .u8 I, .int .u8 K] 65))
  rw [hw1] at hbt h1
  have H1 := Lib.hid h1
  have BT := Lib.hid hbt
  have m0 : w1.cell? ⟨mb, 0, none⟩ = some (.pointer (some ⟨b, 0, none⟩)) := h1.bm.cell 0
  have m2 : w1.cell? ⟨mb, 2, none⟩ = some (.slice pR qR cR) := h1.bm.cell 2
  have t0 : w1.cell? ⟨w.heap.size, 0, none⟩ = some (.int .u8 kind) := hbt.cell 0
  have t1 : w1.cell? ⟨w.heap.size, 1, none⟩ = some (.int .u8 I) := hbt.cell 1
  have t2 : w1.cell? ⟨w.heap.size, 2, none⟩ = some (.int .u8 K) := hbt.cell 2
  clear hm he hk h2
  have hfm := h1.fm
  have hft : ¬ HFoot b p t w.heap.size := h1.st.f.box hbt (by decide) (by decide) (by decide)
  have Z0 : Hid (HSt w0 w1.drew b p t H) := h1.st.quiet (bel_dr w1)
  have ZL : Hid (w0.heap.size ≤ w1.heap.size ∧ ∀ g, HFoot b p t g → g < w1.heap.size) := ⟨h1.st.bel.size, fun g hg => h1.st.f.foot_lt hg⟩
  have ZC : Hid (∀ X, Kept (HFoot b p t) w1 X → X.cell? ⟨mb, 0, none⟩ = some (.pointer (some ⟨b, 0, none⟩)) ∧ X.cell? ⟨w.heap.size, 1, none⟩ = some (.int .u8 I) ∧ X.cell? ⟨w.heap.size, 2, none⟩ = some (.int .u8 K)) := fun X hk => by
    have q1 := h1.bm.kept hk hfm
    have q2 := hbt.kept hk hft
    exact ⟨q1.cell 0, q2.cell 1, q2.cell 2⟩
  have A5 := Lib.hid hI5
  have A2 := Lib.hid hK2
  have AM := Lib.hid hmb
  clear h h1 hfm hft hbt hw1
  go_enter Try.func32, Try.ntmps32
  go_upto_region 1 with fail
  rw [HW.out]
  go_upto_region 3 with fail
  go_cut [6, 7] from 28 to 49 (fun v6 v7 wx => ∃ (B6 : Nat) (hd0 : Bool), v6 = .pointer (some ⟨B6, 0, none⟩) ∧ v7 = .int .i64 0 ∧ (hd0 = true → m = 0) ∧ Hid (Fin2 w0 w1 wx b p t B6 ⟨H.t.took i, putO H.o i (mk m hd0)⟩ ((i : Int), (H.t.g i : Int))))
  case first =>
    refine rb_region mb b w.heap.size I K m k2 A5.out A2.out hm4 AM.out (S := HFoot b p t) (Z1 := fun X => HSt w0 X b p t H) (Z2 := fun X => HSt w0 X b p t ⟨H.t.took i, putO H.o i (mk m false)⟩) ((i : Int), (H.t.g i : Int)) 0 rfl rfl rfl Z0.out (fun _ _ h => h.quiet (bel_new _ _)) (fun _ _ h => h.quiet (bel_new _ _)) (fun X c u v hc hb h => st_box h (Nat.le_trans ZL.out.1 hc) hb u v) ZL.out.2 ZC.out (fun X hX => MK.out _ (by (intro e; cases e)) X hX) ?_
    intro us B6 wx hk hz hb hl hu
    simp [frm, List.range, List.range.loop, rbD, rbH, hu]
    go_wp2_with fail
    go_meet
    exact ⟨B6, false, rfl, rfl, (by (intro e; cases e)), hz, hk, hb, hl⟩
  case rest =>
    obtain ⟨B6, hd0, rfl, rfl, hd1, HF⟩ := hcut
    clear h5 hmb
    obtain ⟨hS, hK, hB, hc⟩ := HF.out
    have hM := H1.out.heap hK hS
    have HM := Lib.hid hM
    have n0 : wc.cell? ⟨mb, 0, none⟩ = some (.pointer (some ⟨b, 0, none⟩)) := hM.bm.cell 0
    have n1 : wc.cell? ⟨mb, 1, none⟩ = some (.map (some M)) := hM.bm.cell 1
    have n2 : wc.cell? ⟨mb, 2, none⟩ = some (.slice pR qR cR) := hM.bm.cell 2
    have hbt2 := BT.out.kept hK (H1.out.st.f.box BT.out (by decide) (by decide) (by decide))
    have BT2 := Lib.hid hbt2
    have t1' : wc.cell? ⟨w.heap.size, 1, none⟩ = some (.int .u8 I) := hbt2.cell 1
    obtain ⟨c0, c1⟩ := hB.rf
    simp only at c0 c1
    have HB := Lib.hid hB
    have HS := Lib.hid hS
    have lk : ∀ W : World, W.heap = wc.heap → (Instr.lookup 66 (.map (some M)) (.agg #[.int .i64 (i : Nat), .int .u32 (H.t.g i : Nat)]) true).run Try.prog W = .ok (.tuple #[.slice none 0 0, .bool false]) W := fun W hW => by
      have := (MapF.same (w' := W) hM.mp (by rw [hW])).look_ok RG.out
      rw [NW.out] at this
      exact this
    have lk1 := lk wc.drew rfl
    have lk2 : ∀ n, _ := fun n => lk (wc.drewN n) rfl
    have lk0 := lk wc rfl
    have LK := Lib.hid lk
    clear hS hK hB hc m0 m2 t0 t1 t2 hM hbt2 lk
    generalize hgi : H.t.g i = gi at *
    go_upto_region 6 with fail
    go_quiet (fail)
    go_upto_region 7 with fail
    generalize hwd : wc.drewN _ = wd
    have hd : Below wc.heap.size wc wd := by rw [← hwd]; exact bel_drn wc _
    have hMd := HM.out.quiet hd
    have n0 : wd.cell? ⟨mb, 0, none⟩ = some (.pointer (some ⟨b, 0, none⟩)) := hMd.bm.cell 0
    have n1 : wd.cell? ⟨mb, 1, none⟩ = some (.map (some M)) := hMd.bm.cell 1
    have n2 : wd.cell? ⟨mb, 2, none⟩ = some (.slice pR qR cR) := hMd.bm.cell 2
    have t1' : wd.cell? ⟨w.heap.size, 1, none⟩ = some (.int .u8 I) := (BT2.out.below hd).cell 1
    have hBd := HB.out.below hd
    obtain ⟨c0, c1⟩ := hBd.rf
    simp only at c0 c1
    have b1 : mb < wd.heap.size := hMd.bm.lt
    have b2 : w.heap.size < wd.heap.size := (BT2.out.below hd).lt
    have b3 : B6 < wd.heap.size := hBd.lt
    have HMd := Lib.hid hMd
    have HBd := Lib.hid hBd
    have hwm : IntKind.i64.wrap (m : Int) = m := by rw [IntKind.wrap_i64]; omega
    obtain ⟨i0, hi0, hz0, hz1, hz2⟩ := info_parts info_ref
    have mks : ∀ W : World, (Instr.makeSlice 32 (.int .i64 (m : Int)) (.int .i64 (m : Int))).run Try.prog W = .ok (.slice (some ⟨W.heap.size, 0, none⟩) m m) (W.alloc (.cells (rcls (List.replicate m (0, 0))).toArray 34)) := fun W => make_refs W m (by omega)
    obtain ⟨w9, hrun, hm9, hk9⟩ := MapF.store (w := (wd.alloc (.cells (rcls (List.replicate m (0, 0))).toArray 34)).drew) (MapF.same (HMd.out.quiet (bel_new wd (.cells (rcls (List.replicate m (0, 0))).toArray 34))).mp rfl) (i := i) (g := gi) RG.out (by have := MO.out.2.1; have := MO.out.2.2; unfold maxLen; omega) wd.heap.size m (by omega)
    have H9 : Hid (Mb w0 w9 mb b p t M (e + 1) ⟨H.t.took i, putO H.o i (mk m hd0)⟩ pR qR cR R pQ qQ cQ Q (setN N (i, gi) (List.replicate m (0, 0))) (setP P (i, gi) wd.heap.size m) ∧ Bk w9 B6 34 (rfc ((i : Int), (gi : Int))) ∧ Bk w9 w.heap.size 65 #[.int .u8 kind, .int .u8 I, .int .u8 K]) := by
      have hbn : Below wd.heap.size wd (wd.alloc (.cells (rcls (List.replicate m (0, 0))).toArray 34)).drew := bel_drew (bel_new _ _)
      have := HMd.out.mapS (L := List.replicate m (0, 0)) (r := (i, gi)) rfl hbn (Bk.new wd _ _) hk9 (by rw [List.length_replicate]; exact hm9) RG.out
      rw [List.length_replicate] at this
      refine ⟨this, (HBd.out.below hbn).kept hk9 (HMd.out.ref HBd.out).2.2, ((BT2.out.below hd).below hbn).kept hk9 fun e => ?_⟩
      have := (BT2.out.below hd); rw [e] at this
      exact HMd.out.mp.no_cells this
    clear hMd hBd hm9 hk9 lk0 lk1 lk2 hd hwd
    clear LK
    go_region
    clear mks hrun n0 n1 n2 t1' c0 c1 b1 b2 b3
    have hM9 := H9.out.1
    have n0 : w9.cell? ⟨mb, 0, none⟩ = some (.pointer (some ⟨b, 0, none⟩)) := hM9.bm.cell 0
    have n2 : w9.cell? ⟨mb, 2, none⟩ = some (.slice pR qR cR) := hM9.bm.cell 2
    obtain ⟨c0, c1⟩ := H9.out.2.1.rf
    simp only at c0 c1
    have b1 : mb < w9.heap.size := hM9.bm.lt
    have b3 : B6 < w9.heap.size := H9.out.2.1.lt
    have hqk : qR ≤ 300 := by have := RL.out.1; have := RL.out.2; have := MO.out.2.2; omega
    obtain ⟨p2, c2, w10, hrun, hrow, hkp, hfr⟩ := app_name hM9 i gi hqk
    have H10 : Hid (Mb w0 (w10.setCell ⟨mb, 2, none⟩ (.slice p2 (qR + 1) c2)) mb b p t M (e + 1) ⟨H.t.took i, putO H.o i (mk m hd0)⟩ p2 (qR + 1) c2 (R ++ [(i, gi)]) pQ qQ cQ Q (setN N (i, gi) (List.replicate m (0, 0))) (setP P (i, gi) wd.heap.size m)) :=
      Mb.rowR (hM9.quiet (w' := (w9.alloc (.cells #[.int .i64 (i : Nat), .int .u32 (gi : Nat)] 34)).drew) (bel_drew (bel_new _ _))) hkp (by rw [List.length_append, hM9.lR]; rfl) hrow hfr
    have hbm := (hM9.quiet (w' := (w9.alloc (.cells #[.int .i64 (i : Nat), .int .u32 (gi : Nat)] 34)).drew) (bel_drew (bel_new _ _))).bm
    have hbm2 := hbm.kept hkp fun e => by
      obtain ⟨_, _, hb⟩ := row_any hM9.rR e
      exact (hM9.ref hb).2.1 rfl
    have y2 := hbm2.cell 2
    have y3 := hbm2.frozen 2
    simp only [List.getElem?_toArray, List.getElem?_cons_zero, List.getElem?_cons_succ] at y2
    clear hM9 hrow hkp hfr hbm hbm2
    go_upto_region 8 with fail
    go_region_law (refine step_append_run (by rfl) _ _ _ (by rfl) (by rfl) (by rfl) hrun ?_)
    all_goals
      go_wp2
      go_ret
      exact ⟨rfl, _, _, _, _, _, _, _, _, _, _, _, _, _, _, _, H10.out, MW.out hd0 hd1, Nat.succ_le_succ MO.out.2.1⟩
end Go.Proofs.Ytfnhkapbfgofkaa
