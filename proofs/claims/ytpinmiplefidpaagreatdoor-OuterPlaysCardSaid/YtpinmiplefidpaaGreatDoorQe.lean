/- The document's world: get. -/
import Derived.Test.YtpinmiplefidpaaGreatDoorQd
import Derived.Test.YtpinmiplefidpaaGreatDoorOr
import Derived.Deep.RegionHeld3
import Derived.Deep.RegionWith
namespace Go.Proofs.YtpinmiplefidpaaGreatDoor
open Go.RowKit

/-- What get says. -/
def Wd.rE (W : Wd) (k x : Int) : Int := if k = 1 then W.F.oE else if k = 2 then W.P.can x else W.D.gE x W.T
def Wd.rK (W : Wd) (k x : Int) : Int := if k = 1 then W.F.oK else if k = 2 then W.P.pK x else W.D.gK x W.T
def Wd.rI (W : Wd) (k x : Int) : Int := if k = 1 then W.F.oI else if k = 2 then W.P.pI x else W.D.gI x W.T
def Wd.rG (W : Wd) (k x : Int) : Int := if k = 1 then W.F.oG else if k = 2 then W.P.pG x else W.D.gG x W.T
theorem goodK_is {k x : Int} (h : goodK k x = true) : (k = 1 ∧ 0 ≤ x ∧ x ≤ 65535) ∨ (k = 2 ∧ 1 ≤ x ∧ x ≤ 65536) ∨ (k = 3 ∧ LS.IsSpan x) := by
  unfold goodK at h
  split at h
  · rename_i e
    exact .inl ⟨e, of_decide_eq_true h⟩
  · split at h
    · rename_i e
      exact .inr (.inl ⟨e, of_decide_eq_true h⟩)
    · split at h
      · rename_i e
        exact .inr (.inr ⟨e, of_decide_eq_true h⟩)
      · cases h
theorem Wd.gE_good {W : Wd} {k x : Int} (h : goodK k x = true) : W.gE k x = W.rE k x := by
  unfold Wd.gE Wd.rE
  rcases goodK_is h with ⟨rfl, h1, h2⟩ | ⟨rfl, h1, h2⟩ | ⟨rfl, h1⟩
  · rw [if_pos rfl, if_pos rfl, if_pos ⟨h1, h2⟩]
  · rfl
  · rfl
theorem Wd.gE_bad {W : Wd} {k x : Int} (h : goodK k x = false) : W.gE k x = 2 := by
  unfold goodK at h
  unfold Wd.gE
  split at h
  · rename_i e
    rw [if_pos e, if_neg (of_decide_eq_false h)]
  · rename_i e
    rw [if_neg e]
    split at h
    · rename_i e2
      rw [if_pos e2]
      have := of_decide_eq_false h
      unfold BF.Po.can
      rw [if_pos (by omega)]
    · rename_i e2
      rw [if_neg e2]
      split at h
      · rename_i e3
        rw [if_pos e3]
        exact LS.Dk.gE_arg fun c => (of_decide_eq_false h) c.1
      · rename_i e3
        rw [if_neg e3]
theorem RStep.box {x y : Rx} {w w1 w2 : World} {U : Wd} {R : Nat} (h : RStep x y w w1) (f : RW w1 y U) (hR : w.heap.size ≤ R) (hn : ¬ RFoot w1 y R) (q : Kept (· = R) w1 w2) : RW w2 y U ∧ RStep x y w w2 := by
  obtain ⟨f2, e⟩ := f.kept q fun g hg z => by subst z; exact hn hg
  exact ⟨f2, h.r, h.k.trans' q fun g e2 => .inr (by subst e2; exact hR), fun g hg => h.g g ((e g).1 hg)⟩
theorem rget_ret {B : Nat} {E : Int} {W : World} {x y z : Value} {P : Ending → World → Prop} {a : Act} (hN : Bk W B 25 #[x, y, z]) (h4 : a.tmps[6]? = some (.pointer (some ⟨B, 0, none⟩))) (h5 : a.tmps[7]? = some (.int .i64 E)) (hd : a.defers = [])
    (hP : P (.returned (.tuple #[.agg #[x, y, z], .int .i64 E])) W) : bodyPost Tryz.prog Tryz.f67 P Exit.ret a W := by
  have c0 : W.cell? ⟨B, 0, none⟩ = some x := hN.cell 0
  have c1 : W.cell? ⟨B, 1, none⟩ = some y := hN.cell 1
  have c2 : W.cell? ⟨B, 2, none⟩ = some z := hN.cell 2
  have e4 : a.tmps.getD 6 undef = .pointer (some ⟨B, 0, none⟩) := by rw [Array.getD_eq_getD_getElem?, h4]; rfl
  have e5 : a.tmps.getD 7 undef = .int .i64 E := by rw [Array.getD_eq_getD_getElem?, h5]; rfl
  refine bodyPost_ret (v := .tuple #[.agg #[x, y, z], .int .i64 E]) ?_ hd hP
  rw [results_cell_tmp rfl, e4, e5]
  go_simp
theorem BF.dpin_ok (c d : Nat) (F : BF.Po) (x : Int) (w : World) (h : BF.DW w c d F) : Calls Tryz.prog 108 #[.pointer (some ⟨c, 0, none⟩), .int .i64 x] w (BF.DPinP c d F x w) := by
  by_cases hx : 1 ≤ x ∧ x ≤ 65536
  · obtain ⟨n, rfl⟩ : ∃ n : Nat, x = n := ⟨x.toNat, by omega⟩
    exact BF.dpin_in c d n F (by omega) (by omega) w h
  · exact BF.dpin_arg c d F x (by omega) w h
/-- What get leaves. -/
def GetV (x : Rx) (W : Wd) (k a : Int) (w : World) (w' : World) : Prop := ∃ y, RW w' y (W.got k a) ∧ RStep x y w w'
set_option maxRecDepth 100000 in
set_option maxHeartbeats 4000000 in
theorem rget_ok (x : Rx) (W : Wd) (k a K I N E : Int) (w : World) (h : RW w x W) (hg : goodK k a = true) (eK : W.rK k a = K) (eI : W.rI k a = I) (eN : W.rG k a = N) (eE : W.rE k a = E) :
    Calls Tryz.prog 67 #[ptr x.r, .int .i64 k, .int .i64 a] w fun e w' => e = .returned (.tuple #[.agg #[.int .i64 K, .int .i64 I, .int .u32 N], .int .i64 E]) ∧ Hid (GetV x W k a w w') := by
  have HB0 := bel_new w (.cells #[.int .i64 0, .int .i64 0, .int .u32 0] 25)
  have B0 := Lib.hid HB0
  have N0 := Lib.hid (Bk.new w 25 #[.int .i64 0, .int .i64 0, .int .u32 0])
  have H1 := Lib.hid (h.below HB0).1
  have Q0 := Lib.hid (h.quiet HB0)
  have HG := Lib.hid (h.ok.got (k := k) (x := a) (fun e => by rcases goodK_is hg with c | c | c <;> omega))
  unfold Wd.rK at eK
  unfold Wd.rI at eI
  unfold Wd.rG at eN
  unfold Wd.rE at eE
  unfold ptr
  rcases goodK_is hg with ⟨rfl, h1, h2⟩ | ⟨rfl, h1, h2⟩ | ⟨rfl, h1⟩
  · rw [if_pos rfl] at eK eI eN eE
    obtain ⟨n, rfl⟩ : ∃ n : Nat, a = n := ⟨a.toNat, by omega⟩
    have c1 := H1.out.c1
    unfold ptr at c1
    have hGot : W.got 1 (n : Int) = { W with F := W.F.opn n } := by unfold Wd.got; rw [if_pos rfl, Int.toNat_natCast]
    rw [hGot] at HG
    have OP := Lib.hid (FD.dopen_ok x.f x.fd n W.F (by omega) _ H1.out.hF)
    unfold FD.DOpenP at OP
    rw [eK, eI, eN, eE] at OP
    have FIN : Hid (∀ w2, FD.DW w2 x.f x.fd (W.F.opn n) → Kept (· = x.fd) (w.alloc (.cells #[.int .i64 0, .int .i64 0, .int .u32 0] 25)) w2 → Hid (Bk w2 w.heap.size 25 #[.int .i64 0, .int .i64 0, .int .u32 0] ∧ ∀ w3, Kept (· = w.heap.size) w2 w3 → GetV x W 1 n w w3)) := fun w2 g1 g2 => by
      obtain ⟨r1, r2⟩ := H1.out.stepF (g2.mono fun _ _ e => .inr e) g1 HG.out
      have nb : Bk w2 w.heap.size 25 #[.int .i64 0, .int .i64 0, .int .u32 0] := N0.out.kept g2 fun e => by
        obtain ⟨_, hd⟩ := H1.out.hF.dbk
        rw [← e] at hd
        exact absurd (N0.out.uniq hd).1 (by decide)
      refine ⟨nb, fun w3 q => ?_⟩
      unfold GetV
      rw [hGot]
      exact ⟨x, (Q0.out.trans r2).box r1 (Nat.le_refl _) (r1.off nb) q⟩
    clear h hg eK eI eN eE HB0 h1 h2 hGot HG
    go_enter Tryz.func67, Tryz.ntmps67
    go_wp2_with fail
    refine OP.out.mono ?_
    rintro e w2 ⟨rfl, g1, g2⟩
    have FF := Lib.hid (FIN.out w2 g1 g2).out
    obtain ⟨n0, n1, n2⟩ := LS.cells3 FF.out.1
    have f0 := FF.out.1.frozen 0
    have f1 := FF.out.1.frozen 1
    have f2 := FF.out.1.frozen 2
    clear g1 g2 c1 OP FIN
    go_wp2
    obtain ⟨hN, hK6⟩ := FD.put3 FF.out.1 (.int .i64 K) (.int .i64 I) (.int .u32 N)
    exact rget_ret hN rfl rfl rfl ⟨rfl, FF.out.2 _ hK6⟩
  · rw [if_neg (by decide), if_pos rfl] at eK eI eN eE
    have c2 := H1.out.c2
    unfold ptr at c2
    have hGot : W.got 2 a = { W with P := W.P.pin a } := rfl
    rw [hGot] at HG
    have OP := Lib.hid (BF.dpin_ok x.p x.pd W.P a _ H1.out.hP)
    unfold BF.DPinP at OP
    rw [eK, eI, eN, eE] at OP
    have FIN : Hid (∀ w2, BF.DSetQ x.p x.pd (W.P.pin a) (w.alloc (.cells #[.int .i64 0, .int .i64 0, .int .u32 0] 25)) w2 → Hid (Bk w2 w.heap.size 25 #[.int .i64 0, .int .i64 0, .int .u32 0] ∧ ∀ w3, Kept (· = w.heap.size) w2 w3 → GetV x W 2 a w w3)) := fun w2 hq => by
      obtain ⟨d', g0, g1, g2⟩ := hq
      obtain ⟨r1, r2⟩ := H1.out.stepP g2 g0 g1 HG.out
      have nb : Bk w2 w.heap.size 25 #[.int .i64 0, .int .i64 0, .int .u32 0] := N0.out.kept g2 fun e => by
        obtain ⟨_, hd⟩ := H1.out.hP.cbk
        rw [← e] at hd
        exact absurd (N0.out.uniq hd).1 (by decide)
      refine ⟨nb, fun w3 q => ?_⟩
      unfold GetV
      rw [hGot]
      exact ⟨_, (Q0.out.trans r2).box r1 (Nat.le_refl _) (r1.off nb) q⟩
    clear h hg eK eI eN eE HB0 h1 h2 hGot HG
    go_enter Tryz.func67, Tryz.ntmps67
    go_wp2_with fail
    refine OP.out.mono ?_
    rintro e w2 ⟨rfl, g1⟩
    have FF := Lib.hid (FIN.out w2 g1).out
    obtain ⟨n0, n1, n2⟩ := LS.cells3 FF.out.1
    have f0 := FF.out.1.frozen 0
    have f1 := FF.out.1.frozen 1
    have f2 := FF.out.1.frozen 2
    clear g1 c2 OP FIN
    go_wp2
    obtain ⟨hN, hK6⟩ := FD.put3 FF.out.1 (.int .i64 K) (.int .i64 I) (.int .u32 N)
    exact rget_ret hN rfl rfl rfl ⟨rfl, FF.out.2 _ hK6⟩
  · rw [if_neg (by decide), if_neg (by decide)] at eK eI eN eE
    have hGot : W.got 3 a = { W with D := W.D.grant a W.T } := rfl
    rw [hGot] at HG
    have HB1 := bel2 HB0 (bel_drew (Below.refl (w.alloc (.cells #[.int .i64 0, .int .i64 0, .int .u32 0] 25)).heap.size (w.alloc (.cells #[.int .i64 0, .int .i64 0, .int .u32 0] 25))))
    have H2 := Lib.hid (h.below HB1).1
    have Q2 := Lib.hid (h.quiet HB1)
    have N2 := Lib.hid (N0.out.below (bel_drew (Below.refl (w.alloc (.cells #[.int .i64 0, .int .i64 0, .int .u32 0] 25)).heap.size (w.alloc (.cells #[.int .i64 0, .int .i64 0, .int .u32 0] 25)))))
    have c3 := H2.out.c3
    have c6 := H2.out.c6
    have c3' := H1.out.c3
    have c6' := H1.out.c6
    unfold ptr at c3 c3'
    have OP := Lib.hid (LS.egrant_ok x.q x.qc x.qd x.qg W.D a W.T _ H2.out.hD)
    unfold LS.EGraV at OP
    rw [eK, eI, eN, eE] at OP
    have FIN : Hid (∀ w2, LS.QW w2 x.q x.qc x.qd x.qg (W.D.grant a W.T) → Kept (LS.QFt x.q x.qc x.qd x.qg) (w.alloc (.cells #[.int .i64 0, .int .i64 0, .int .u32 0] 25)).drew w2 → Hid (Bk w2 w.heap.size 25 #[.int .i64 0, .int .i64 0, .int .u32 0] ∧ ∀ w3, Kept (· = w.heap.size) w2 w3 → GetV x W 3 a w w3)) := fun w2 g1 g2 => by
      obtain ⟨r1, r2⟩ := H2.out.stepD g2 g1 HG.out
      have nb : Bk w2 w.heap.size 25 #[.int .i64 0, .int .i64 0, .int .u32 0] := N2.out.kept g2 (H2.out.hD.off N2.out (by decide) (by decide) (by decide) (by decide))
      refine ⟨nb, fun w3 q => ?_⟩
      unfold GetV
      rw [hGot]
      exact ⟨x, (Q2.out.trans r2).box r1 (Nat.le_refl _) (r1.off nb) q⟩
    generalize W.T = T at *
    clear h hg eK eI eN eE HB0 HB1 h1 hGot HG
    go_enter Tryz.func67, Tryz.ntmps67
    go_wp2_with fail
    go_region_with (go_at_call 109; refine OP.out.mono ?_; rintro e w2 ⟨rfl, g1, g2⟩; have FF := Lib.hid (FIN.out w2 g1 g2).out; obtain ⟨n0, n1, n2⟩ := LS.cells3 FF.out.1; have f0 := FF.out.1.frozen 0; have f1 := FF.out.1.frozen 1; have f2 := FF.out.1.frozen 2; clear g1 g2 c3 c6 c3' c6' OP FIN)
    all_goals
      go_wp2
      obtain ⟨hN, hK6⟩ := FD.put3 FF.out.1 (.int .i64 K) (.int .i64 I) (.int .u32 N)
      exact rget_ret hN rfl rfl rfl ⟨rfl, FF.out.2 _ hK6⟩
end Go.Proofs.YtpinmiplefidpaaGreatDoor
