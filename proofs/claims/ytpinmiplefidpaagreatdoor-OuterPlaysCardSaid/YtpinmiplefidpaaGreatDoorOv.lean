/- The helpers of the statements: short, same, do; a world's steps. -/
import Derived.Test.YtpinmiplefidpaaGreatDoorOen
import Derived.BigQuiet
import Derived.Laws.ResultCell
namespace Go.Proofs.YtpinmiplefidpaaGreatDoor
open Go.RowKit

/-- Steps that are looked at. -/
def Short (len : Nat) (S : Nat → Sp) (most : Nat) : Prop := len ≤ most ∧ ∀ j, j < len → (S j).t.size ≤ 40
set_option maxRecDepth 100000 in
set_option maxHeartbeats 1000000 in
theorem short_yes (a : Option Addr) (len cap most : Nat) (S : Nat → Sp) (w : World) (hl : len ≤ cap) (hm : cap ≤ 9223372036854775807) (_hM : most ≤ 1000) (hu : Sps w a len S) (hs : Short len S most) :
    Calls Tryz.prog 12 #[.slice a len cap, .int .i64 most] w fun e w' => e = .returned (.bool true) ∧ Below w.heap.size w w' := by
  obtain ⟨h1, h2⟩ := hs
  have HU := Lib.hid hu
  have H2 := Lib.hid h2
  clear hu h2
  go_enter Tryz.func12, Tryz.ntmps12
  go_wp2
  go_loopw [5] (fun v wr => ∃ j : Nat, j ≤ len ∧ v = .int .i64 j ∧ Hid (Below w.heap.size w wr)) (fun v _ => len - (intOf v).toNat)
  case atStart => exact ⟨0, Nat.zero_le _, rfl, Below.refl _ _⟩
  case round =>
    obtain ⟨j, hj, rfl, HB⟩ := hrel
    by_cases hlt : j < len
    · obtain ⟨b, off, rfl, hb, hc⟩ := (HU.out.below HB.out).at_ (by omega)
      obtain ⟨_, _, _, _, _, _, _, _, c8⟩ := hc j hlt
      have ht := H2.out j hlt
      clear hc
      generalize (S j).t = t at *
      go_wp2
      go_roundw
      case rel => exact ⟨j + 1, by omega, by go_num, HB.out⟩
      case measure => simp [intOf]; omega
    · obtain rfl : j = len := by omega
      go_wp2
      go_ret
      exact ⟨rfl, HB.out⟩
set_option maxRecDepth 100000 in
set_option maxHeartbeats 1000000 in
theorem short_no (a : Option Addr) (len cap most : Nat) (S : Nat → Sp) (w : World) (hl : len ≤ cap) (hm : cap ≤ 9223372036854775807) (_hM : most ≤ 1000) (hu : Sps w a len S) (hs : ¬ Short len S most) :
    Calls Tryz.prog 12 #[.slice a len cap, .int .i64 most] w fun e w' => e = .returned (.bool false) ∧ Below w.heap.size w w' := by
  have HU := Lib.hid hu
  have HS := Lib.hid hs
  clear hu hs
  by_cases h1 : len ≤ most
  · go_enter Tryz.func12, Tryz.ntmps12
    go_wp2
    go_loopw [5] (fun v wr => ∃ j : Nat, j ≤ len ∧ v = .int .i64 j ∧ Hid (∀ i, i < j → (S i).t.size ≤ 40) ∧ Hid (Below w.heap.size w wr)) (fun v _ => len - (intOf v).toNat)
    case atStart => exact ⟨0, Nat.zero_le _, rfl, fun _ h => by omega, Below.refl _ _⟩
    case round =>
      obtain ⟨j, hj, rfl, HJ, HB⟩ := hrel
      by_cases hlt : j < len
      · obtain ⟨b, off, rfl, hb, hc⟩ := (HU.out.below HB.out).at_ (by omega)
        obtain ⟨_, _, _, _, _, _, _, _, c8⟩ := hc j hlt
        have hts := (HU.out.bd j hlt).t
        clear hc
        by_cases ht : (S j).t.size ≤ 40
        · have HJ2 : Hid (∀ i, i < j + 1 → (S i).t.size ≤ 40) := fun i hi => by
            by_cases e : i = j
            · subst e; exact ht
            · exact HJ.out i (by omega)
          generalize (S j).t = t at *
          go_wp2
          go_roundw
          case rel => exact ⟨j + 1, by omega, by go_num, HJ2.out, HB.out⟩
          case measure => simp [intOf]; omega
        · generalize (S j).t = t at *
          go_wp2
          go_ret
          exact ⟨rfl, HB.out⟩
      · exact absurd ⟨h1, fun i hi => HJ.out i (by omega)⟩ HS.out
  · go_enter Tryz.func12, Tryz.ntmps12
    go_wp2
    go_ret
    exact ⟨rfl, Below.refl _ _⟩

set_option maxRecDepth 100000 in
set_option maxHeartbeats 1000000 in
/-- Two lists that are equal. -/
theorem same_yes (p q : Option Addr) (n c d : Nat) (l : List Ro) (w : World) (h1 : RdO w (.slice p n c) l) (h2 : RdO w (.slice q n d) l) :
    Calls Tryz.prog 46 #[.slice p n c, .slice q n d] w fun e w' => e = .returned (.bool true) ∧ Below w.heap.size w w' := by
  have R1 := Lib.hid h1
  have R2 := Lib.hid h2
  obtain ⟨e1, e2, e3, _⟩ := h1.cap
  obtain ⟨_, e4, e5, _⟩ := h2.cap
  subst e1
  clear h1 h2
  obtain ⟨N, hN⟩ : ∃ N, l.length = N := ⟨_, rfl⟩
  rw [hN] at R1 R2 e2 e4 ⊢
  have HN := Lib.hid hN
  clear hN
  go_enter Tryz.func46, Tryz.ntmps46
  go_wp2
  go_loopw [5] (fun v wr => ∃ j : Nat, j ≤ N ∧ v = .int .i64 j ∧ Hid (Below w.heap.size w wr)) (fun v _ => N - (intOf v).toNat)
  case atStart => exact ⟨0, Nat.zero_le _, rfl, Below.refl _ _⟩
  case round =>
    obtain ⟨j, hj, rfl, HB⟩ := hrel
    by_cases hlt : j < N
    · have hjl : j < l.length := by rw [HN.out]; exact hlt
      obtain ⟨g1, o1, rfl, hg1, t0, t1, t2⟩ := (R1.out.below HB.out).cell hjl
      obtain ⟨g2, o2, rfl, hg2, u0, u1, u2⟩ := (R2.out.below HB.out).cell hjl
      generalize l[j] = x at *
      obtain ⟨k, i, g⟩ := x
      dsimp only at t0 t1 t2 u0 u1 u2
      clear hjl
      go_wp2_with fail
      go_quiet (fail)
      go_wp2
      go_roundw
      case rel => exact ⟨j + 1, by omega, by go_num, bel_drewN HB.out _⟩
      case measure => simp [intOf]; omega
    · obtain rfl : j = N := by omega
      go_wp2
      go_ret
      exact ⟨rfl, HB.out⟩

/-! ### do -/
def Wd.dK (W : Wd) (s : Sp) : Int := if s.d = 0 then W.aK s.k s.a else 0
def Wd.dI (W : Wd) (s : Sp) : Int := if s.d = 0 then W.aI s.k s.a else 0
def Wd.dG (W : Wd) (s : Sp) : Int := if s.d = 0 then W.aG s.k s.a else 0
def Wd.dB (W : Wd) (s : Sp) : Bool := decide (s.d = 0 ∧ W.aE s.k s.a = 0)
def Wd.does (W : Wd) (s : Sp) : Wd := if s.d = 0 then W.acq s.k s.a else if s.d = 1 then W.rel s.o.k s.o.i s.o.g s.y else if s.d = 2 then W.ren s.o.k s.o.i s.o.g s.x else if s.d = 3 then W.tick s.x else if s.d = 4 then W.said s.t.data.toList else W
theorem nine {w : World} {g : Nat} {a0 a1 a2 a3 a4 a5 a6 a7 a8 : Value} {t : TypeId} (h : Bk w g t #[a0, a1, a2, a3, a4, a5, a6, a7, a8]) : w.cell? ⟨g, 0, none⟩ = some a0 ∧ w.cell? ⟨g, 1, none⟩ = some a1 ∧ w.cell? ⟨g, 2, none⟩ = some a2 ∧ w.cell? ⟨g, 3, none⟩ = some a3 ∧ w.cell? ⟨g, 4, none⟩ = some a4 ∧ w.cell? ⟨g, 5, none⟩ = some a5 ∧ w.cell? ⟨g, 6, none⟩ = some a6 ∧ w.cell? ⟨g, 7, none⟩ = some a7 ∧ w.cell? ⟨g, 8, none⟩ = some a8 := ⟨h.cell 0, h.cell 1, h.cell 2, h.cell 3, h.cell 4, h.cell 5, h.cell 6, h.cell 7, h.cell 8⟩

/-- What do gives. -/
def DoV (w0 w : World) (A : Ad) (U : Wd) (K I G : Int) (b : Bool) (e : Ending) (w' : World) : Prop := e = .returned (.tuple #[.agg #[.int .i64 K, .int .i64 I, .int .u32 G], .bool b]) ∧ Hid (WSt w0 w' A U) ∧ Hid (WStep A w w')
theorem WSt.box {w0 w w1 w2 : World} {A : Ad} {W U : Wd} {R : Nat} (h : WSt w0 w A W) (h1 : WStep A w w1) (f : WW w1 A U) (hR : w.heap.size ≤ R) (hn : ¬ WFoot w1 A R) (q : Kept (· = R) w1 w2) : WSt w0 w2 A U ∧ WStep A w w2 := by
  obtain ⟨f2, s2⟩ := h1.box f hR hn q
  exact ⟨h.step s2 f2, s2⟩

set_option maxRecDepth 100000 in
set_option maxHeartbeats 4000000 in
theorem do_acq (A : Ad) (W : Wd) (k a K I G y x : Int) (t : ByteArray) (w0 w : World) (he : OEnv w0) (h : WSt w0 w A W) (ha : I64 a) :
    Calls Tryz.prog 42 #[ptr A.b, .agg #[.int .i64 0, .int .i64 k, .int .i64 a, .int .i64 K, .int .i64 I, .int .u32 G, .int .i64 y, .int .i64 x, .string t]] w (DoV w0 w A (W.acq k a) (W.aK k a) (W.aI k a) (W.aG k a) (decide (W.aE k a = 0))) := by
  have n0 := Bk.new w 36 #[.int .i64 0, .int .i64 k, .int .i64 a, .int .i64 K, .int .i64 I, .int .u32 G, .int .i64 y, .int .i64 x, .string t]
  have n1 := Bk.new (w.alloc (.cells #[.int .i64 0, .int .i64 k, .int .i64 a, .int .i64 K, .int .i64 I, .int .u32 G, .int .i64 y, .int .i64 x, .string t] 36)) 25 #[.int .i64 0, .int .i64 0, .int .u32 0]
  have bb := bel2 (bel_new w (.cells #[.int .i64 0, .int .i64 k, .int .i64 a, .int .i64 K, .int .i64 I, .int .u32 G, .int .i64 y, .int .i64 x, .string t] 36)) (bel_new _ (.cells #[.int .i64 0, .int .i64 0, .int .u32 0] 25))
  have n2 := n0.below (bel_new _ (.cells #[.int .i64 0, .int .i64 0, .int .u32 0] 25))
  rw [World.size_alloc] at n1
  have NB := Lib.hid n2
  have NR := Lib.hid n1
  have H := Lib.hid h
  have HE := Lib.hid he
  have S1 := Lib.hid (h.quiet bb)
  have Q1 := Lib.hid (h.f.quiet bb)
  clear n0 n1 n2 bb h he
  generalize hv : (w.alloc (.cells #[.int .i64 0, .int .i64 k, .int .i64 a, .int .i64 K, .int .i64 I, .int .u32 G, .int .i64 y, .int .i64 x, .string t] 36)).alloc (.cells #[.int .i64 0, .int .i64 0, .int .u32 0] 25) = v at *
  obtain ⟨c0, c1, c2, c3, c4, c5, c6, c7, c8⟩ := nine NB.out
  unfold ptr
  go_enter Tryz.func42, Tryz.ntmps42
  go_wp2_with fail
  refine (acq_s k a _ _ _ _ S1.out ha rfl rfl rfl rfl).mono ?_
  rintro e w1 ⟨rfl, hS, hT⟩
  have NR1 := Lib.hid (hT.out.keep S1.out.f NR.out)
  have Q2 := Lib.hid (Q1.out.trans hT.out)
  generalize W.aK k a = K1 at *
  generalize W.aI k a = I1 at *
  generalize W.aG k a = G1 at *
  generalize W.aE k a = E1 at *
  have b := bel_new w1 (.cells #[.int .i64 K1, .int .i64 I1, .int .u32 G1] 25)
  have NX := Lib.hid (Bk.new w1 25 #[.int .i64 K1, .int .i64 I1, .int .u32 G1])
  have S2 := Lib.hid (hS.out.quiet b)
  have Q3 := Lib.hid (Q2.out.trans (hS.out.f.quiet b))
  have NR2 := Lib.hid (NR1.out.below b)
  clear hS hT b c0 c1 c2 c3 c4 c5 c6 c7 c8
  obtain ⟨x0, x1, x2, _⟩ := lay3 NX.out
  obtain ⟨r0, r1, r2, f0, f1, f2⟩ := lay3 NR2.out
  go_wp2
  have t3 := put3_bk NR2.out (.int .i64 K1) (.int .i64 I1) (.int .u32 G1)
  obtain ⟨y0, y1, y2, _⟩ := lay3 t3
  refine bodyPost_ret (v := .tuple #[.agg #[.int .i64 K1, .int .i64 I1, .int .u32 G1], .bool (E1 == 0)]) (by simp [results, Tryz.results42, go_sem, y0, y1, y2]) rfl ⟨rfl, ?_⟩
  exact WSt.box H.out Q3.out S2.out.f (Nat.le_succ _) (S2.out.f.off NR2.out) (put3_kept _ (w.heap.size + 1) _ _ _)

set_option maxRecDepth 100000 in
set_option maxHeartbeats 4000000 in
theorem do_rel (A : Ad) (W : Wd) (k a K I G y x : Int) (t : ByteArray) (w0 w : World) (he : OEnv w0) (h : WSt w0 w A W) (hr : RgO K I G) (hy : I64 y) :
    Calls Tryz.prog 42 #[ptr A.b, .agg #[.int .i64 1, .int .i64 k, .int .i64 a, .int .i64 K, .int .i64 I, .int .u32 G, .int .i64 y, .int .i64 x, .string t]] w (DoV w0 w A (W.rel K I G y) 0 0 0 false) := by
  have n0 := Bk.new w 36 #[.int .i64 1, .int .i64 k, .int .i64 a, .int .i64 K, .int .i64 I, .int .u32 G, .int .i64 y, .int .i64 x, .string t]
  have n1 := Bk.new (w.alloc (.cells #[.int .i64 1, .int .i64 k, .int .i64 a, .int .i64 K, .int .i64 I, .int .u32 G, .int .i64 y, .int .i64 x, .string t] 36)) 25 #[.int .i64 0, .int .i64 0, .int .u32 0]
  have bb := bel2 (bel_new w (.cells #[.int .i64 1, .int .i64 k, .int .i64 a, .int .i64 K, .int .i64 I, .int .u32 G, .int .i64 y, .int .i64 x, .string t] 36)) (bel_new _ (.cells #[.int .i64 0, .int .i64 0, .int .u32 0] 25))
  have n2 := n0.below (bel_new _ (.cells #[.int .i64 0, .int .i64 0, .int .u32 0] 25))
  rw [World.size_alloc] at n1
  have NB := Lib.hid n2
  have NR := Lib.hid n1
  have H := Lib.hid h
  have HE := Lib.hid he
  have S1 := Lib.hid (h.quiet bb)
  have Q1 := Lib.hid (h.f.quiet bb)
  clear n0 n1 n2 bb h he
  generalize hv : (w.alloc (.cells #[.int .i64 1, .int .i64 k, .int .i64 a, .int .i64 K, .int .i64 I, .int .u32 G, .int .i64 y, .int .i64 x, .string t] 36)).alloc (.cells #[.int .i64 0, .int .i64 0, .int .u32 0] 25) = v at *
  obtain ⟨c0, c1, c2, c3, c4, c5, c6, c7, c8⟩ := nine NB.out
  unfold ptr
  go_enter Tryz.func42, Tryz.ntmps42
  go_wp2_with fail
  refine (rel_s K I G y _ _ HE.out S1.out hr hy rfl rfl).mono ?_
  rintro e w1 ⟨rfl, hS, hT⟩
  have NR2 := Lib.hid (hT.out.keep S1.out.f NR.out)
  have S2 := Lib.hid hS.out
  have Q3 := Lib.hid (Q1.out.trans hT.out)
  clear hS hT c0 c1 c2 c3 c4 c5 c6 c7 c8
  obtain ⟨r0, r1, r2, f0, f1, f2⟩ := lay3 NR2.out
  go_wp2
  have t3 := put3_bk NR2.out (.int .i64 0) (.int .i64 0) (.int .u32 0)
  obtain ⟨y0, y1, y2, _⟩ := lay3 t3
  refine bodyPost_ret (v := .tuple #[.agg #[.int .i64 0, .int .i64 0, .int .u32 0], .bool false]) (by simp [results, Tryz.results42, go_sem, y0, y1, y2]) rfl ⟨rfl, ?_⟩
  exact WSt.box H.out Q3.out S2.out.f (Nat.le_succ _) (S2.out.f.off NR2.out) (put3_kept w1 (w.heap.size + 1) _ _ _)

set_option maxRecDepth 100000 in
set_option maxHeartbeats 4000000 in
theorem do_ren (A : Ad) (W : Wd) (k a K I G y x : Int) (t : ByteArray) (w0 w : World) (he : OEnv w0) (h : WSt w0 w A W) (hr : RgO K I G) :
    Calls Tryz.prog 42 #[ptr A.b, .agg #[.int .i64 2, .int .i64 k, .int .i64 a, .int .i64 K, .int .i64 I, .int .u32 G, .int .i64 y, .int .i64 x, .string t]] w (DoV w0 w A (W.ren K I G x) 0 0 0 false) := by
  have n0 := Bk.new w 36 #[.int .i64 2, .int .i64 k, .int .i64 a, .int .i64 K, .int .i64 I, .int .u32 G, .int .i64 y, .int .i64 x, .string t]
  have n1 := Bk.new (w.alloc (.cells #[.int .i64 2, .int .i64 k, .int .i64 a, .int .i64 K, .int .i64 I, .int .u32 G, .int .i64 y, .int .i64 x, .string t] 36)) 25 #[.int .i64 0, .int .i64 0, .int .u32 0]
  have bb := bel2 (bel_new w (.cells #[.int .i64 2, .int .i64 k, .int .i64 a, .int .i64 K, .int .i64 I, .int .u32 G, .int .i64 y, .int .i64 x, .string t] 36)) (bel_new _ (.cells #[.int .i64 0, .int .i64 0, .int .u32 0] 25))
  have n2 := n0.below (bel_new _ (.cells #[.int .i64 0, .int .i64 0, .int .u32 0] 25))
  rw [World.size_alloc] at n1
  have NB := Lib.hid n2
  have NR := Lib.hid n1
  have H := Lib.hid h
  have HE := Lib.hid he
  have S1 := Lib.hid (h.quiet bb)
  have Q1 := Lib.hid (h.f.quiet bb)
  clear n0 n1 n2 bb h he
  generalize hv : (w.alloc (.cells #[.int .i64 2, .int .i64 k, .int .i64 a, .int .i64 K, .int .i64 I, .int .u32 G, .int .i64 y, .int .i64 x, .string t] 36)).alloc (.cells #[.int .i64 0, .int .i64 0, .int .u32 0] 25) = v at *
  obtain ⟨c0, c1, c2, c3, c4, c5, c6, c7, c8⟩ := nine NB.out
  unfold ptr
  go_enter Tryz.func42, Tryz.ntmps42
  go_wp2_with fail
  refine (ren_s K I G x _ S1.out hr rfl).mono ?_
  rintro e w1 ⟨rfl, hS, hT⟩
  have NR2 := Lib.hid (hT.out.keep S1.out.f NR.out)
  have S2 := Lib.hid hS.out
  have Q3 := Lib.hid (Q1.out.trans hT.out)
  clear hS hT c0 c1 c2 c3 c4 c5 c6 c7 c8
  obtain ⟨r0, r1, r2, f0, f1, f2⟩ := lay3 NR2.out
  go_wp2
  have t3 := put3_bk NR2.out (.int .i64 0) (.int .i64 0) (.int .u32 0)
  obtain ⟨y0, y1, y2, _⟩ := lay3 t3
  refine bodyPost_ret (v := .tuple #[.agg #[.int .i64 0, .int .i64 0, .int .u32 0], .bool false]) (by simp [results, Tryz.results42, go_sem, y0, y1, y2]) rfl ⟨rfl, ?_⟩
  exact WSt.box H.out Q3.out S2.out.f (Nat.le_succ _) (S2.out.f.off NR2.out) (put3_kept w1 (w.heap.size + 1) _ _ _)

set_option maxRecDepth 100000 in
set_option maxHeartbeats 4000000 in
theorem do_tick (A : Ad) (W : Wd) (k a K I G y x : Int) (t : ByteArray) (w0 w : World) (he : OEnv w0) (h : WSt w0 w A W) :
    Calls Tryz.prog 42 #[ptr A.b, .agg #[.int .i64 3, .int .i64 k, .int .i64 a, .int .i64 K, .int .i64 I, .int .u32 G, .int .i64 y, .int .i64 x, .string t]] w (DoV w0 w A (W.tick x) 0 0 0 false) := by
  have n0 := Bk.new w 36 #[.int .i64 3, .int .i64 k, .int .i64 a, .int .i64 K, .int .i64 I, .int .u32 G, .int .i64 y, .int .i64 x, .string t]
  have n1 := Bk.new (w.alloc (.cells #[.int .i64 3, .int .i64 k, .int .i64 a, .int .i64 K, .int .i64 I, .int .u32 G, .int .i64 y, .int .i64 x, .string t] 36)) 25 #[.int .i64 0, .int .i64 0, .int .u32 0]
  have bb := bel2 (bel_new w (.cells #[.int .i64 3, .int .i64 k, .int .i64 a, .int .i64 K, .int .i64 I, .int .u32 G, .int .i64 y, .int .i64 x, .string t] 36)) (bel_new _ (.cells #[.int .i64 0, .int .i64 0, .int .u32 0] 25))
  have n2 := n0.below (bel_new _ (.cells #[.int .i64 0, .int .i64 0, .int .u32 0] 25))
  rw [World.size_alloc] at n1
  have NB := Lib.hid n2
  have NR := Lib.hid n1
  have H := Lib.hid h
  have HE := Lib.hid he
  have S1 := Lib.hid (h.quiet bb)
  have Q1 := Lib.hid (h.f.quiet bb)
  clear n0 n1 n2 bb h he
  generalize hv : (w.alloc (.cells #[.int .i64 3, .int .i64 k, .int .i64 a, .int .i64 K, .int .i64 I, .int .u32 G, .int .i64 y, .int .i64 x, .string t] 36)).alloc (.cells #[.int .i64 0, .int .i64 0, .int .u32 0] 25) = v at *
  obtain ⟨c0, c1, c2, c3, c4, c5, c6, c7, c8⟩ := nine NB.out
  unfold ptr
  go_enter Tryz.func42, Tryz.ntmps42
  go_wp2_with fail
  refine (tick_s x _ S1.out rfl).mono ?_
  rintro e w1 ⟨rfl, hS, hT⟩
  have NR2 := Lib.hid (hT.out.keep S1.out.f NR.out)
  have S2 := Lib.hid hS.out
  have Q3 := Lib.hid (Q1.out.trans hT.out)
  clear hS hT c0 c1 c2 c3 c4 c5 c6 c7 c8
  obtain ⟨r0, r1, r2, f0, f1, f2⟩ := lay3 NR2.out
  go_wp2
  have t3 := put3_bk NR2.out (.int .i64 0) (.int .i64 0) (.int .u32 0)
  obtain ⟨y0, y1, y2, _⟩ := lay3 t3
  refine bodyPost_ret (v := .tuple #[.agg #[.int .i64 0, .int .i64 0, .int .u32 0], .bool false]) (by simp [results, Tryz.results42, go_sem, y0, y1, y2]) rfl ⟨rfl, ?_⟩
  exact WSt.box H.out Q3.out S2.out.f (Nat.le_succ _) (S2.out.f.off NR2.out) (put3_kept w1 (w.heap.size + 1) _ _ _)

set_option maxRecDepth 100000 in
set_option maxHeartbeats 4000000 in
theorem do_answer (A : Ad) (W : Wd) (k a K I G y x : Int) (t : ByteArray) (w0 w : World) (he : OEnv w0) (h : WSt w0 w A W) (hts : t.size ≤ 140737488351232) :
    Calls Tryz.prog 42 #[ptr A.b, .agg #[.int .i64 4, .int .i64 k, .int .i64 a, .int .i64 K, .int .i64 I, .int .u32 G, .int .i64 y, .int .i64 x, .string t]] w (DoV w0 w A (W.said t.data.toList) 0 0 0 false) := by
  have n0 := Bk.new w 36 #[.int .i64 4, .int .i64 k, .int .i64 a, .int .i64 K, .int .i64 I, .int .u32 G, .int .i64 y, .int .i64 x, .string t]
  have n1 := Bk.new (w.alloc (.cells #[.int .i64 4, .int .i64 k, .int .i64 a, .int .i64 K, .int .i64 I, .int .u32 G, .int .i64 y, .int .i64 x, .string t] 36)) 25 #[.int .i64 0, .int .i64 0, .int .u32 0]
  have bb := bel2 (bel_new w (.cells #[.int .i64 4, .int .i64 k, .int .i64 a, .int .i64 K, .int .i64 I, .int .u32 G, .int .i64 y, .int .i64 x, .string t] 36)) (bel_new _ (.cells #[.int .i64 0, .int .i64 0, .int .u32 0] 25))
  have n2 := n0.below (bel_new _ (.cells #[.int .i64 0, .int .i64 0, .int .u32 0] 25))
  rw [World.size_alloc] at n1
  have NB := Lib.hid n2
  have NR := Lib.hid n1
  have H := Lib.hid h
  have HE := Lib.hid he
  have S1 := Lib.hid (h.quiet bb)
  have Q1 := Lib.hid (h.f.quiet bb)
  clear n0 n1 n2 bb h he
  generalize hv : (w.alloc (.cells #[.int .i64 4, .int .i64 k, .int .i64 a, .int .i64 K, .int .i64 I, .int .u32 G, .int .i64 y, .int .i64 x, .string t] 36)).alloc (.cells #[.int .i64 0, .int .i64 0, .int .u32 0] 25) = v at *
  obtain ⟨c0, c1, c2, c3, c4, c5, c6, c7, c8⟩ := nine NB.out
  unfold ptr
  go_enter Tryz.func42, Tryz.ntmps42
  go_wp2_with fail
  refine (answer_s t _ HE.out S1.out hts rfl).mono ?_
  rintro e w1 ⟨rfl, hS, hT⟩
  have NR2 := Lib.hid (hT.out.keep S1.out.f NR.out)
  have S2 := Lib.hid hS.out
  have Q3 := Lib.hid (Q1.out.trans hT.out)
  clear hS hT c0 c1 c2 c3 c4 c5 c6 c7 c8
  obtain ⟨r0, r1, r2, f0, f1, f2⟩ := lay3 NR2.out
  go_wp2
  have t3 := put3_bk NR2.out (.int .i64 0) (.int .i64 0) (.int .u32 0)
  obtain ⟨y0, y1, y2, _⟩ := lay3 t3
  refine bodyPost_ret (v := .tuple #[.agg #[.int .i64 0, .int .i64 0, .int .u32 0], .bool false]) (by simp [results, Tryz.results42, go_sem, y0, y1, y2]) rfl ⟨rfl, ?_⟩
  exact WSt.box H.out Q3.out S2.out.f (Nat.le_succ _) (S2.out.f.off NR2.out) (put3_kept w1 (w.heap.size + 1) _ _ _)

set_option maxRecDepth 100000 in
set_option maxHeartbeats 4000000 in
theorem do_none (A : Ad) (W : Wd) (d k a K I G y x : Int) (t : ByteArray) (w0 w : World) (he : OEnv w0) (h : WSt w0 w A W) (hd : ¬ (0 ≤ d ∧ d ≤ 4)) :
    Calls Tryz.prog 42 #[ptr A.b, .agg #[.int .i64 d, .int .i64 k, .int .i64 a, .int .i64 K, .int .i64 I, .int .u32 G, .int .i64 y, .int .i64 x, .string t]] w (DoV w0 w A W 0 0 0 false) := by
  have n0 := Bk.new w 36 #[.int .i64 d, .int .i64 k, .int .i64 a, .int .i64 K, .int .i64 I, .int .u32 G, .int .i64 y, .int .i64 x, .string t]
  have n1 := Bk.new (w.alloc (.cells #[.int .i64 d, .int .i64 k, .int .i64 a, .int .i64 K, .int .i64 I, .int .u32 G, .int .i64 y, .int .i64 x, .string t] 36)) 25 #[.int .i64 0, .int .i64 0, .int .u32 0]
  have bb := bel2 (bel_new w (.cells #[.int .i64 d, .int .i64 k, .int .i64 a, .int .i64 K, .int .i64 I, .int .u32 G, .int .i64 y, .int .i64 x, .string t] 36)) (bel_new _ (.cells #[.int .i64 0, .int .i64 0, .int .u32 0] 25))
  have n2 := n0.below (bel_new _ (.cells #[.int .i64 0, .int .i64 0, .int .u32 0] 25))
  rw [World.size_alloc] at n1
  have NB := Lib.hid n2
  have NR := Lib.hid n1
  have H := Lib.hid h
  have HE := Lib.hid he
  have S1 := Lib.hid (h.quiet bb)
  have Q1 := Lib.hid (h.f.quiet bb)
  clear n0 n1 n2 bb h he
  generalize hv : (w.alloc (.cells #[.int .i64 d, .int .i64 k, .int .i64 a, .int .i64 K, .int .i64 I, .int .u32 G, .int .i64 y, .int .i64 x, .string t] 36)).alloc (.cells #[.int .i64 0, .int .i64 0, .int .u32 0] 25) = v at *
  obtain ⟨c0, c1, c2, c3, c4, c5, c6, c7, c8⟩ := nine NB.out
  unfold ptr
  go_enter Tryz.func42, Tryz.ntmps42
  obtain ⟨r0, r1, r2, f0, f1, f2⟩ := lay3 NR.out
  have d0 : d ≠ 0 := by omega
  have d1 : d ≠ 1 := by omega
  have d2 : d ≠ 2 := by omega
  have d3 : d ≠ 3 := by omega
  have d4 : d ≠ 4 := by omega
  clear hd
  go_wp2
  have t3 := put3_bk NR.out (.int .i64 0) (.int .i64 0) (.int .u32 0)
  obtain ⟨y0, y1, y2, _⟩ := lay3 t3
  refine bodyPost_ret (v := .tuple #[.agg #[.int .i64 0, .int .i64 0, .int .u32 0], .bool false]) (by simp [results, Tryz.results42, go_sem, y0, y1, y2]) rfl ⟨rfl, ?_⟩
  exact WSt.box H.out Q1.out S1.out.f (Nat.le_succ _) (S1.out.f.off NR.out) (put3_kept v (w.heap.size + 1) _ _ _)

theorem do_ok (A : Ad) (W : Wd) (s : Sp) (w0 w : World) (he : OEnv w0) (h : WSt w0 w A W) (hs : s.Ok) (ht : s.t.size ≤ 140737488351232) :
    Calls Tryz.prog 42 #[ptr A.b, .agg s.cs] w (DoV w0 w A (W.does s) (W.dK s) (W.dI s) (W.dG s) (W.dB s)) := by
  obtain ⟨d, k, a, ⟨K, I, G⟩, y, x, t⟩ := s
  unfold Wd.does Wd.dK Wd.dI Wd.dG Wd.dB
  dsimp only
  by_cases d0 : d = 0
  · subst d0
    rw [if_pos rfl, if_pos rfl, if_pos rfl, if_pos rfl, show decide ((0 : Int) = 0 ∧ W.aE k a = 0) = decide (W.aE k a = 0) by simp]
    exact do_acq A W k a K I G y x t w0 w he h hs.a
  · rw [if_neg d0, if_neg d0, if_neg d0, if_neg d0]
    have ef : decide (d = 0 ∧ W.aE k a = 0) = false := by simp [d0]
    rw [ef]
    by_cases d1 : d = 1
    · subst d1; exact do_rel A W k a K I G y x t w0 w he h hs.o hs.y
    rw [if_neg d1]
    by_cases d2 : d = 2
    · subst d2; exact do_ren A W k a K I G y x t w0 w he h hs.o
    rw [if_neg d2]
    by_cases d3 : d = 3
    · subst d3; exact do_tick A W k a K I G y x t w0 w he h
    rw [if_neg d3]
    by_cases d4 : d = 4
    · subst d4; exact do_answer A W k a K I G y x t w0 w he h ht
    rw [if_neg d4]
    exact do_none A W d k a K I G y x t w0 w he h (by omega)
end Go.Proofs.YtpinmiplefidpaaGreatDoor
