/- The walk of the statement SlotsCopies: it returns true for all sizes, generations and turns. -/
import Derived.Test.YtgdboppdncoieaaLNever
import Derived.Deep.RegionHeld3
namespace Go.Proofs.Ytgdboppdncoieaa
open Go.RowKit

structure CpSt (w0 w : World) (b x y : Nat) (T U V : Tb) : Prop where
  t : TabW w b T
  a : TabW w x U
  c : TabW w y V
  d1 : b ≠ x
  d2 : b ≠ y
  d3 : x ≠ y
  bel : Below w0.heap.size w0 w
  l1 : w0.heap.size ≤ b
  l2 : w0.heap.size ≤ x
  l3 : w0.heap.size ≤ y
theorem CpSt.quiet {w0 w w' : World} {b x y : Nat} {T U V : Tb} (h : CpSt w0 w b x y T U V) (k : Below w.heap.size w w') : CpSt w0 w' b x y T U V :=
  ⟨h.t.below k, h.a.below k, h.c.below k, h.d1, h.d2, h.d3, bel2 h.bel k, h.l1, h.l2, h.l3⟩
theorem CpSt.stepx {w0 w w' : World} {b x y : Nat} {T U V U' : Tb} (h : CpSt w0 w b x y T U V) (k : Kept (· = x) w w') (ht : TabW w' x U') : CpSt w0 w' b x y T U' V :=
  ⟨h.t.kept k h.d1, ht, h.c.kept k (fun e => h.d3 e.symm), h.d1, h.d2, h.d3, kept_bel h.bel k h.l2, h.l1, h.l2, h.l3⟩
theorem CpSt.stepy {w0 w w' : World} {b x y : Nat} {T U V V' : Tb} (h : CpSt w0 w b x y T U V) (k : Kept (· = y) w w') (ht : TabW w' y V') : CpSt w0 w' b x y T U V' :=
  ⟨h.t.kept k h.d2, h.a.kept k h.d3, ht, h.d1, h.d2, h.d3, kept_bel h.bel k h.l3, h.l1, h.l2, h.l3⟩
/-- Between the two calls of a give: the box of the reference beside the state. -/
def CpM (w0 w : World) (b x y X : Nat) (T U V : Tb) (i g : Nat) : Prop := CpSt w0 w b x y T U V ∧ Bk w X 33 #[.int .i64 i, .int .u32 g] ∧ X ≠ x ∧ X ≠ y
theorem Below.draws {w W : World} (e2 : W.os = w.os) (e3 : W.tape = w.tape) (e4 : W.output = w.output) (e1 : W.heap = w.heap) (B : Nat) : Below B w W := ⟨e2, e3, e4, by rw [e1]; exact Nat.le_refl _, fun k _ => by rw [e1]⟩
/-- A call whose first argument is the pointer to block p. -/
theorem at_ptr (p : Nat) {F : Nat} {v : Value} {W : World} {Q : Ending → World → Prop} (h : Calls Try.prog F #[.pointer (some ⟨p, 0, none⟩), v] W Q) : Calls Try.prog F #[.pointer (some ⟨p, 0, none⟩), v] W Q := h
section
variable {w0 W0 W : World} {b x y X i g : Nat} {T U V U' : Tb}
theorem CpM.draws (a : CpM w0 W0 b x y X T U V i g) (e1 : W.heap = W0.heap) (e2 : W.os = W0.os) (e3 : W.tape = W0.tape) (e4 : W.output = W0.output) : CpM w0 W b x y X T U V i g :=
  ⟨a.1.quiet (Below.draws e2 e3 e4 e1 _), by have h2 := a.2.1; unfold Bk at h2 ⊢; rw [e1]; exact h2, a.2.2⟩
theorem cpm_givex (hU : U.given i g = U') (hE : U.chk i g = 0) (a : Hid (CpM w0 W0 b x y X T U V i g)) (e1 : W.heap = W0.heap) (e2 : W.os = W0.os) (e3 : W.tape = W0.tape) (e4 : W.output = W0.output) :
    Calls Try.prog 18 #[.pointer (some ⟨x, 0, none⟩), .agg #[.int .i64 i, .int .u32 g]] W fun e w' => e = .returned (.int .i64 0) ∧ Hid (CpM w0 w' b x y X T U' V i g) ∧ (w'.cell? ⟨X, 0, none⟩ = some (.int .i64 i) ∧ w'.cell? ⟨X, 1, none⟩ = some (.int .u32 g)) := by
  have a2 := a.out.draws e1 e2 e3 e4
  refine (give_s x U i g 0 W a2.1.a hE).mono ?_
  rintro e w' ⟨h1, h2, h3⟩
  rw [hU] at h2
  have hb := a2.2.1.kept h3 a2.2.2.1
  exact ⟨h1, ⟨a2.1.stepx h3 h2, hb, a2.2.2⟩, hb.cell 0, hb.cell 1⟩
theorem cpm_givey (hU : V.given i g = U') (hE : V.chk i g = 0) (a : Hid (CpM w0 W0 b x y X T U V i g)) (e1 : W.heap = W0.heap) (e2 : W.os = W0.os) (e3 : W.tape = W0.tape) (e4 : W.output = W0.output) :
    Calls Try.prog 18 #[.pointer (some ⟨y, 0, none⟩), .agg #[.int .i64 i, .int .u32 g]] W fun e w' => e = .returned (.int .i64 0) ∧ Hid (CpM w0 w' b x y X T U U' i g) ∧ (w'.cell? ⟨X, 0, none⟩ = some (.int .i64 i) ∧ w'.cell? ⟨X, 1, none⟩ = some (.int .u32 g)) := by
  have a2 := a.out.draws e1 e2 e3 e4
  refine (give_s y V i g 0 W a2.1.c hE).mono ?_
  rintro e w' ⟨h1, h2, h3⟩
  rw [hU] at h2
  have hb := a2.2.1.kept h3 a2.2.2.2
  exact ⟨h1, ⟨a2.1.stepy h3 h2, hb, a2.2.2⟩, hb.cell 0, hb.cell 1⟩
end

set_option maxRecDepth 100000 in
set_option maxHeartbeats 16000000 in
theorem copies_core (size below : Int) (a : Option Addr) (len cap : Nat) (c : Nat → Bool) (q : Nat → Nat) (a2 : Option Addr) (len2 cap2 : Nat) (c2 : Nat → Bool) (q2 : Nat → Nat) (w : World) (h0 : 0 ≤ size) (h1 : size ≤ 255) (h2 : 0 ≤ below) (h3 : below ≤ 255) (hl : len ≤ 150) (hl2 : len2 ≤ 60) (hu : Turns w a len c q) (hu2 : Turns w a2 len2 c2 q2) :
    Calls Try.prog 9 #[.int .u8 size, .int .u8 below, .slice a len cap, .slice a2 len2 cap2] w fun e w' => e = .returned (.bool true) ∧ Below w.heap.size w w' := by
  have HM : Hid (∀ W : World, Below w.heap.size w W → Calls Try.prog 28 #[.int .u8 size, .int .u8 below, .slice a len cap] W (MadeV (runT (mk0 size below) c q len) (runL (mk0 size below) c q len) W)) := fun W hW => made_ok size below a len cap c q W h0 h1 h2 h3 (by omega) (hu.below hW)
  have HU := Lib.hid hu2
  clear h0 h1 h2 h3 hu hu2
  go_enter Try.func9, Try.ntmps9
  go_wp2_with fail
  refine (HM.out _ (Below.refl _ _)).mono ?_
  rintro e w1 ⟨b, a1, c1, rfl, hb, ht, _, hbel⟩
  have HT := Lib.hid ht
  have HB := Lib.hid hbel
  have HLB := Lib.hid hb
  clear hb ht hbel
  generalize runT (mk0 size below) c q len = T at *
  go_wp2_with fail
  refine (copy_ok b T _ HT.out).mono ?_
  rintro e w2 ⟨rfl, ht2, hb2⟩
  have HT2 := Lib.hid (HT.out.below hb2)
  have HX2 := Lib.hid ht2
  have HB2 := Lib.hid (bel2 HB.out hb2)
  have HLX : Hid (w.heap.size ≤ w1.heap.size ∧ b ≠ w1.heap.size) := ⟨HB.out.size, by have := HT.out.bt; omega⟩
  clear ht2 hb2 HT HB
  go_wp2_with fail
  generalize w1.heap.size = x at *
  refine (copy_ok b T _ HT2.out).mono ?_
  rintro e w3 ⟨rfl, ht3, hb3⟩
  have ST : Hid (CpSt w w3 b x w2.heap.size T T T) :=
    ⟨HT2.out.below hb3, HX2.out.below hb3, ht3, HLX.out.2, by have := HT2.out.bt; omega, by have := HX2.out.bt; omega, bel2 HB2.out hb3, HLB.out, HLX.out.1, HB2.out.size⟩
  clear ht3 hb3 HT2 HX2 HB2 HLX HLB
  go_wp2
  generalize w2.heap.size = y at *
  go_loopw [13] (fun ix wr => ∃ (k : Nat) (U : Tb), k ≤ len2 ∧ ix = .int .i64 k ∧ Hid (CpSt w wr b x y T U U)) (fun ix _ => len2 - (intOf ix).toNat)
  case atStart => exact ⟨0, T, Nat.zero_le _, rfl, ST.out⟩
  case round =>
    clear ST
    obtain ⟨k, U, hk, rfl, HS⟩ := hrel
    by_cases hlt : k < len2
    · obtain ⟨B, off, rfl, hB, hcells⟩ := (HU.out.below HS.out.bel).at_ (by omega)
      obtain ⟨hm0, hm1⟩ := hcells k hlt
      have hq := HU.out.lt k hlt
      generalize c2 k = gv at *
      generalize q2 k = z at *
      clear hcells
      go_wp2_with fail
      refine (taken_s x U _ HS.out.a).mono ?_
      rintro e w4 ⟨a4, c4, rfl, hs4, hb4⟩
      have HS4 := Lib.hid (HS.out.quiet hb4)
      have HR4 := Lib.hid hs4
      have hd0 : w4.cell? ⟨B, off + k * 2, none⟩ = some (.bool gv) := (hb4.cell (p := ⟨B, off + k * 2, none⟩) hB).trans hm0
      have hd1 : w4.cell? ⟨B, off + k * 2 + 1, none⟩ = some (.int .u8 z) := (hb4.cell (p := ⟨B, off + k * 2 + 1, none⟩) hB).trans hm1
      have hB4 : B < w4.heap.size := Nat.lt_of_lt_of_le hB hb4.size
      clear hs4 hb4 hm0 hm1 hB HS
      have hnl := Tb.now_len U
      have hhl := U.held_len HS4.out.a.ok
      obtain ⟨m, hm⟩ : ∃ m, U.held.length = m := ⟨_, rfl⟩
      rw [hm] at hnl hhl
      rw [hnl]
      rw [hnl] at HR4
      by_cases hgive : gv = true ∧ 0 < m
      · obtain ⟨rfl, hm0⟩ := hgive
        obtain ⟨j, hj⟩ : ∃ j, z % m = j := ⟨_, rfl⟩
        have hjm : j < m := by rw [← hj]; exact Nat.mod_lt _ hm0
        obtain ⟨i, hij⟩ : ∃ i, U.held[j]? = some i := ⟨_, List.getElem?_eq_getElem (by omega)⟩
        obtain ⟨hin, his⟩ := Tb.held_at hij
        obtain ⟨g3, rfl, hg3, hx0, hx1⟩ := HR4.out.at (now_at' hij)
        simp only [] at hx0 hx1
        have HCH := Lib.hid (Tb.chk_held hin his)
        have HGV := Lib.hid (Tb.given_held hin his)
        have e2 : (z : Int) % (m : Int) = (j : Int) := by
          have := congrArg (fun n : Nat => (n : Int)) hj
          simpa using this
        have e1 : (z : Int).tmod (m : Int) = (j : Int) := by rw [Int.tmod_eq_emod_of_nonneg (by omega)]; exact e2
        obtain ⟨g, hy⟩ : ∃ g, U.g i = g := ⟨_, rfl⟩
        rw [hy] at hx1 HCH HGV
        have HM0 : Hid (CpM w (w4.alloc (.cells #[.int .i64 i, .int .u32 g] 33)) b x y w4.heap.size T U U i g) :=
          ⟨HS4.out.quiet ((Below.refl _ w4).alloc (Nat.le_refl _) _), Bk.new w4 _ _, by have := HS4.out.a.bt; omega, by have := HS4.out.c.bt; omega⟩
        clear hm hnl hj hij his hin hy
        go_wp2
        clear e1 e2 hx0 hx1 hd0 hd1
        have hz0 : (w4.alloc (.cells #[.int .i64 i, .int .u32 g] 33)).cell? ⟨w4.heap.size, 0, none⟩ = some (.int .i64 i) ∧ (w4.alloc (.cells #[.int .i64 i, .int .u32 g] 33)).cell? ⟨w4.heap.size, 1, none⟩ = some (.int .u32 g) := ⟨HM0.out.2.1.cell 0, HM0.out.2.1.cell 1⟩
        go_region_held3 (fun W => W.cell? ⟨w4.heap.size, 0, none⟩ = some (.int .i64 i) ∧ W.cell? ⟨w4.heap.size, 1, none⟩ = some (.int .u32 g)) (first | exact hz0 | exact hz1 | exact hz2)
          (first
          | (go_at_call 18; (with_reducible refine at_ptr x ?_); refine (cpm_givex HGV.out HCH.out HM0 (by rfl) (by rfl) (by rfl) (by rfl)).mono ?_; rintro e w6 ⟨rfl, HM1, hz1⟩)
          | (go_at_call 18; (with_reducible refine at_ptr y ?_); refine (cpm_givey HGV.out HCH.out HM1 (by rfl) (by rfl) (by rfl) (by rfl)).mono ?_; rintro e w7 ⟨rfl, HM2, hz2⟩))
        go_wp2
        go_roundw
        case rel => exact ⟨k + 1, _, by omega, by go_num, HM2.out.1⟩
        case measure => simp [intOf]; omega
      · by_cases hgv : gv = true
        · obtain rfl : m = 0 := by
            by_cases h : 0 < m
            · exact absurd ⟨hgv, h⟩ hgive
            · omega
          subst hgv
          clear hgive hm hnl
          go_wp2_with fail
          clear hd0 hd1
          refine (take_s x U U.tI U.tG U.tE _ HS4.out.a rfl rfl rfl).mono ?_
          rintro e w5 ⟨rfl, ht, hk5⟩
          have HS5 := Lib.hid (HS4.out.stepx hk5 ht)
          have HQ : Hid (TabW w4 y U) := HS4.out.c
          clear ht hk5 HS4
          obtain ⟨i, hi⟩ : ∃ i, U.tI = i := ⟨_, rfl⟩
          obtain ⟨g, hg⟩ : ∃ g, U.tG = g := ⟨_, rfl⟩
          obtain ⟨E, hE⟩ : ∃ E, U.tE = E := ⟨_, rfl⟩
          rw [hi, hg, hE]
          have HIG := Lib.hid (And.intro hi (And.intro hg hE))
          have hal : Below w5.heap.size w5 (w5.alloc (.cells #[.int .i64 i, .int .u32 g] 33)) := (Below.refl _ w5).alloc (Nat.le_refl _) _
          have HS6 := Lib.hid (HS5.out.quiet hal)
          have HX6 := Lib.hid (Bk.new w5 33 #[.int .i64 i, .int .u32 g])
          have HN6 : Hid (w5.heap.size ≠ y) := by have := HS5.out.c.bt; unfold Hid; omega
          clear hi hg hE hal HS5 HQ
          go_wp2_with fail
          generalize w5.heap.size = X at *
          generalize w5.alloc (.cells #[.int .i64 i, .int .u32 g] 33) = w6 at *
          refine (take_s y U i g E _ HS6.out.c HIG.out.1 HIG.out.2.1 HIG.out.2.2).mono ?_
          rintro e w7 ⟨rfl, ht, hk7⟩
          have HS7 := Lib.hid (HS6.out.stepy hk7 ht)
          have hx0 : w7.cell? ⟨X, 0, none⟩ = some (.int .i64 i) := (HX6.out.kept hk7 HN6.out).cell 0
          have hx1 : w7.cell? ⟨X, 1, none⟩ = some (.int .u32 g) := (HX6.out.kept hk7 HN6.out).cell 1
          have hxl := (HX6.out.kept hk7 HN6.out).lt
          have hii : ((i : Int) == (i : Int)) = true := by simp
          have hgg : ((g : Int) == (g : Int)) = true := by simp
          have hee : (E != E) = false := by simp
          have HS8 := Lib.hid (HS7.out.quiet ((Below.refl _ w7).alloc (Nat.le_refl _) (.cells #[.int .i64 i, .int .u32 g] 33)))
          clear ht hk7 HS6 HX6 HS7
          go_wp2
          go_roundw
          case rel => exact ⟨k + 1, U.take, by omega, by go_num, HS8.out⟩
          case measure => simp [intOf]; omega
        · have hgv2 : gv = false := by simpa using hgv
          subst hgv2
          clear hgive hgv hm hnl
          go_wp2_with fail
          clear hd0 hd1
          refine (take_s x U U.tI U.tG U.tE _ HS4.out.a rfl rfl rfl).mono ?_
          rintro e w5 ⟨rfl, ht, hk5⟩
          have HS5 := Lib.hid (HS4.out.stepx hk5 ht)
          have HQ : Hid (TabW w4 y U) := HS4.out.c
          clear ht hk5 HS4
          obtain ⟨i, hi⟩ : ∃ i, U.tI = i := ⟨_, rfl⟩
          obtain ⟨g, hg⟩ : ∃ g, U.tG = g := ⟨_, rfl⟩
          obtain ⟨E, hE⟩ : ∃ E, U.tE = E := ⟨_, rfl⟩
          rw [hi, hg, hE]
          have HIG := Lib.hid (And.intro hi (And.intro hg hE))
          have hal : Below w5.heap.size w5 (w5.alloc (.cells #[.int .i64 i, .int .u32 g] 33)) := (Below.refl _ w5).alloc (Nat.le_refl _) _
          have HS6 := Lib.hid (HS5.out.quiet hal)
          have HX6 := Lib.hid (Bk.new w5 33 #[.int .i64 i, .int .u32 g])
          have HN6 : Hid (w5.heap.size ≠ y) := by have := HS5.out.c.bt; unfold Hid; omega
          clear hi hg hE hal HS5 HQ
          go_wp2_with fail
          generalize w5.heap.size = X at *
          generalize w5.alloc (.cells #[.int .i64 i, .int .u32 g] 33) = w6 at *
          refine (take_s y U i g E _ HS6.out.c HIG.out.1 HIG.out.2.1 HIG.out.2.2).mono ?_
          rintro e w7 ⟨rfl, ht, hk7⟩
          have HS7 := Lib.hid (HS6.out.stepy hk7 ht)
          have hx0 : w7.cell? ⟨X, 0, none⟩ = some (.int .i64 i) := (HX6.out.kept hk7 HN6.out).cell 0
          have hx1 : w7.cell? ⟨X, 1, none⟩ = some (.int .u32 g) := (HX6.out.kept hk7 HN6.out).cell 1
          have hxl := (HX6.out.kept hk7 HN6.out).lt
          have hii : ((i : Int) == (i : Int)) = true := by simp
          have hgg : ((g : Int) == (g : Int)) = true := by simp
          have hee : (E != E) = false := by simp
          have HS8 := Lib.hid (HS7.out.quiet ((Below.refl _ w7).alloc (Nat.le_refl _) (.cells #[.int .i64 i, .int .u32 g] 33)))
          clear ht hk7 HS6 HX6 HS7
          go_wp2
          go_roundw
          case rel => exact ⟨k + 1, U.take, by omega, by go_num, HS8.out⟩
          case measure => simp [intOf]; omega
    · obtain rfl : k = len2 := by omega
      go_wp2_with fail
      refine (HM.out _ HS.out.bel).mono ?_
      rintro e w5 ⟨u, a5, c5, rfl, hu5, ht5, _, hbel5⟩
      have HS5 := Lib.hid (HS.out.quiet hbel5)
      have HT5 := Lib.hid ht5
      clear hu5 ht5 hbel5 HS
      go_wp2_with fail
      refine (taken_s b T _ HS5.out.t).mono ?_
      rintro e w6 ⟨a6, c6, rfl, hs6, hb6⟩
      have HS6 := Lib.hid (HS5.out.quiet hb6)
      have HT6 := Lib.hid (HT5.out.below hb6)
      have HR6 := Lib.hid hs6
      clear hs6 hb6 HS5 HT5
      go_wp2_with fail
      refine (taken_s u T _ HT6.out).mono ?_
      rintro e w7 ⟨a7, c7, rfl, hs7, hb7⟩
      have HS7 := Lib.hid (HS6.out.quiet hb7)
      have HT7 := Lib.hid (HT6.out.below hb7)
      have HR7 := Lib.hid (HR6.out.below hb7)
      have HU7 := Lib.hid hs7
      have hd : ((T.now.length : Int) != (T.now.length : Int)) = false := by simp
      clear hs7 hb7 HS6 HT6 HR6
      go_wp2_with fail
      clear hd
      refine (free_ok x U _ HS7.out.a).mono ?_
      rintro e w8 ⟨rfl, hb8⟩
      have HS8 := Lib.hid (HS7.out.quiet hb8)
      have HT8 := Lib.hid (HT7.out.below hb8)
      have HR8 := Lib.hid (HR7.out.below hb8)
      have HU8 := Lib.hid (HU7.out.below hb8)
      clear hb8 HS7 HT7 HR7 HU7
      go_wp2_with fail
      refine (free_ok y U _ HS8.out.c).mono ?_
      rintro e w9 ⟨rfl, hb9⟩
      have HS9 := Lib.hid (HS8.out.quiet hb9)
      have HT9 := Lib.hid (HT8.out.below hb9)
      have HR9 := Lib.hid (HR8.out.below hb9)
      have HU9 := Lib.hid (HU8.out.below hb9)
      have hd : ((U.free.length : Int) != (U.free.length : Int)) = false := by simp
      clear hb9 HS8 HT8 HR8 HU8
      go_wp2_with fail
      clear hd
      refine (free_ok b T _ HS9.out.t).mono ?_
      rintro e w10 ⟨rfl, hb10⟩
      have HS10 := Lib.hid (HS9.out.quiet hb10)
      have HT10 := Lib.hid (HT9.out.below hb10)
      have HR10 := Lib.hid (HR9.out.below hb10)
      have HU10 := Lib.hid (HU9.out.below hb10)
      clear hb10 HS9 HT9 HR9 HU9
      go_wp2_with fail
      refine (free_ok u T _ HT10.out).mono ?_
      rintro e w11 ⟨rfl, hb11⟩
      have HS11 := Lib.hid (HS10.out.quiet hb11)
      have HT11 := Lib.hid (HT10.out.below hb11)
      have HR11 := Lib.hid (HR10.out.below hb11)
      have HU11 := Lib.hid (HU10.out.below hb11)
      have hd : ((T.free.length : Int) != (T.free.length : Int)) = false := by simp
      clear hb11 HS10 HT10 HR10 HU10
      go_wp2_with fail
      clear hd
      refine (retired_ok b T _ HS11.out.t).mono ?_
      rintro e w12 ⟨rfl, hb12⟩
      have HS12 := Lib.hid (HS11.out.quiet hb12)
      have HT12 := Lib.hid (HT11.out.below hb12)
      have HR12 := Lib.hid (HR11.out.below hb12)
      have HU12 := Lib.hid (HU11.out.below hb12)
      clear hb12 HS11 HT11 HR11 HU11
      go_wp2_with fail
      refine (retired_ok u T _ HT12.out).mono ?_
      rintro e w13 ⟨rfl, hb13⟩
      have HB13 := Lib.hid (HS12.out.quiet hb13).bel
      have HR13 := Lib.hid (HR12.out.below hb13)
      have HU13 := Lib.hid (HU12.out.below hb13)
      have hNl : T.now.length ≤ 256 := by rw [Tb.now_len]; exact T.held_len HS12.out.t.ok
      have hd : ((T.gone.length : Int) != (T.gone.length : Int)) = false := by simp
      clear hb13 HS12 HT12 HR12 HU12
      go_wp2
      clear hd
      go_loopw [24] (fun ix wq => ∃ kk : Nat, kk ≤ T.now.length ∧ ix = .int .i64 kk ∧ Hid (Sr wq (.slice a6 T.now.length c6) T.now) ∧ Hid (Sr wq (.slice a7 T.now.length c7) T.now) ∧ Hid (Below w.heap.size w wq)) (fun ix _ => T.now.length - (intOf ix).toNat)
      case atStart => exact ⟨0, Nat.zero_le _, rfl, HR13.out, HU13.out, HB13.out⟩
      case round =>
        clear HR13 HU13 HB13
        obtain ⟨k2, hk2, rfl, HN8, HS8, HB8⟩ := hrel
        by_cases hlk : k2 < T.now.length
        · obtain ⟨r2, hr2⟩ : ∃ r2, T.now[k2]? = some r2 := ⟨_, List.getElem?_eq_getElem hlk⟩
          obtain ⟨g2, rfl, hg2, hd0, hd1⟩ := HN8.out.at hr2
          obtain ⟨g3, rfl, hg3, he0, he1⟩ := HS8.out.at hr2
          obtain ⟨x2, y2⟩ := r2
          simp only [] at hd0 hd1 he0 he1
          have hxx : ((x2 : Int) == (x2 : Int)) = true := by simp
          have hyy : ((y2 : Int) == (y2 : Int)) = true := by simp
          clear hr2
          go_wp2
          go_quiet (fail)
          go_wp2
          go_roundw
          case rel => exact ⟨k2 + 1, by omega, by go_num, HN8.out.below (bel_drewN (Below.refl _ _) _), HS8.out.below (bel_drewN (Below.refl _ _) _), bel_drewN HB8.out _⟩
          case measure => simp [intOf]; omega
        · obtain rfl : k2 = T.now.length := by omega
          go_wp2_with fail
          refine (works_ok _).mono ?_
          rintro e w9 ⟨rfl, hb9⟩
          go_wp2
          go_ret
          exact ⟨rfl, bel2 HB8.out hb9⟩

set_option maxRecDepth 100000 in
theorem copies_long1 (size below : Int) (a : Option Addr) (len cap : Nat) (a2 : Option Addr) (len2 cap2 : Nat) (w : World) (hl : 150 < len) :
    Calls Try.prog 9 #[.int .u8 size, .int .u8 below, .slice a len cap, .slice a2 len2 cap2] w fun e w' => e = .returned (.bool true) ∧ Below w.heap.size w w' := by
  go_enter Try.func9, Try.ntmps9
  go_wp2_with fail
  refine (works_ok _).mono ?_
  rintro e w3 ⟨rfl, hb3⟩
  go_wp2
  go_ret
  exact ⟨rfl, hb3⟩
set_option maxRecDepth 100000 in
theorem copies_long2 (size below : Int) (a : Option Addr) (len cap : Nat) (a2 : Option Addr) (len2 cap2 : Nat) (w : World) (hl : len ≤ 150) (hl2 : 60 < len2) :
    Calls Try.prog 9 #[.int .u8 size, .int .u8 below, .slice a len cap, .slice a2 len2 cap2] w fun e w' => e = .returned (.bool true) ∧ Below w.heap.size w w' := by
  go_enter Try.func9, Try.ntmps9
  go_wp2_with fail
  refine (works_ok _).mono ?_
  rintro e w3 ⟨rfl, hb3⟩
  go_wp2
  go_ret
  exact ⟨rfl, hb3⟩
theorem copies_walk (size below : Int) (a : Option Addr) (len cap : Nat) (c : Nat → Bool) (q : Nat → Nat) (a2 : Option Addr) (len2 cap2 : Nat) (c2 : Nat → Bool) (q2 : Nat → Nat) (w : World) (h0 : 0 ≤ size) (h1 : size ≤ 255) (h2 : 0 ≤ below) (h3 : below ≤ 255) (hu : Turns w a len c q) (hu2 : Turns w a2 len2 c2 q2) :
    Calls Try.prog 9 #[.int .u8 size, .int .u8 below, .slice a len cap, .slice a2 len2 cap2] w fun e w' => e = .returned (.bool true) ∧ Below w.heap.size w w' := by
  by_cases hl : len ≤ 150
  · by_cases hl2 : len2 ≤ 60
    · exact copies_core size below a len cap c q a2 len2 cap2 c2 q2 w h0 h1 h2 h3 hl hl2 hu hu2
    · exact copies_long2 size below a len cap a2 len2 cap2 w hl (by omega)
  · exact copies_long1 size below a len cap a2 len2 cap2 w (by omega)
end Go.Proofs.Ytgdboppdncoieaa
