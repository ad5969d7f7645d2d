/- The walk of the statement ColourWay: it returns true for all sizes and calls. -/
import Derived.Test.YthcpmcdgojgdlaaLCApt
import Derived.BigRegion
namespace Go.Proofs.Ythcpmcdgojgdlaa
open Go.RowKit

/-- A paint, what is wanted of it, and how often each slot was shaded. -/
structure Way (w0 w : World) (b p q n : Nat) (P : Pt) (sh : Nat → Nat) : Prop where
  c : CSt w0 w b P
  hn : P.n = n
  fp : Bl w p n P.c
  fq : Bl w q n sh
  hs : ∀ i, sh i ≤ 1
  hz : ∀ i, P.c i = 0 → sh i = 0
  lp : w0.heap.size ≤ p
  lq : w0.heap.size ≤ q
  ne : p ≠ q
theorem way_new {w0 w w' : World} {b n : Nat} (h : CSt w0 w b (white n)) (e : ((w.alloc (.cells (made_ n) 3)).alloc (.cells (made_ n) 3)).drew = w') :
    Way w0 w' b w.heap.size (w.heap.size + 1) n (white n) (fun _ => 0) ∧ Way w0 w' b (w.heap.size + 1) w.heap.size n (white n) (fun _ => 0) := by
  have b1 := Bl.made w n
  have b2 := Bl.made (w.alloc (.cells (made_ n) 3)) n
  rw [World.size_alloc] at b2
  have b3 := b1.below (bel_new (w.alloc (.cells (made_ n) 3)) (.cells (made_ n) 3))
  have hc := (h.quiet (bel_new w (.cells (made_ n) 3))).quiet (bel_new (w.alloc (.cells (made_ n) 3)) (.cells (made_ n) 3))
  have hl := h.bel.size
  have hd : Below ((w.alloc (.cells (made_ n) 3)).alloc (.cells (made_ n) 3)).heap.size ((w.alloc (.cells (made_ n) 3)).alloc (.cells (made_ n) 3)) w' := by
    rw [← e]
    exact bel_drewN (Below.refl _ _) 1
  exact ⟨⟨hc.quiet hd, rfl, b3.below hd, b2.below hd, fun _ => Nat.zero_le _, fun _ _ => rfl, by omega, by omega, by omega⟩, ⟨hc.quiet hd, rfl, b2.below hd, b3.below hd, fun _ => Nat.zero_le _, fun _ _ => rfl, by omega, by omega, by omega⟩⟩
section
variable {w0 w w' : World} {b p q n k : Nat} {P Q : Pt} {sh : Nat → Nat}
theorem Way.quiet (h : Way w0 w b p q n P sh) (e : Below w.heap.size w w') : Way w0 w' b p q n P sh := ⟨h.c.quiet e, h.hn, h.fp.below e, h.fq.below e, h.hs, h.hz, h.lp, h.lq, h.ne⟩
theorem Way.drewN (h : Way w0 w b p q n P sh) (m : Nat) : Way w0 (w.drewN m) b p q n P sh := h.quiet (bel_drewN (Below.refl _ w) m)
/-- Behind Shade of a white slot, and the two stores. -/
theorem Way.shaded (h : Way w0 w b p q n P sh) (hk : k < n) (h0 : P.c k = 0) (c : CSt w0 w' b (P.turn k 0 1)) (e : Kept (· = b) w w') :
    (Bl w' p n P.c ∧ Bl w' q n sh ∧ Bl (w'.setCell ⟨p, k, none⟩ (.int .i64 1)) q n sh) ∧ Way w0 ((w'.setCell ⟨p, k, none⟩ (.int .i64 1)).setCell ⟨q, k, none⟩ (.int .i64 1)) b p q n (P.set k 1) (put sh k 1) := by
  have hp := h.fp.kept e (h.fp.ne h.c.p)
  have hq := h.fq.kept e (h.fq.ne h.c.p)
  have hbp := (h.fp.ne h.c.p).symm
  have hbq := (h.fq.ne h.c.p).symm
  have k1 : Kept (· = p) w' (w'.setCell ⟨p, k, none⟩ (.int .i64 1)) := (Kept.refl _ w').put1 _ _
  have k2 : Kept (· = q) (w'.setCell ⟨p, k, none⟩ (.int .i64 1)) ((w'.setCell ⟨p, k, none⟩ (.int .i64 1)).setCell ⟨q, k, none⟩ (.int .i64 1)) := (Kept.refl _ _).put1 _ _
  rw [turn_set (by have := h.hn; omega) 1 h0] at c
  refine ⟨⟨hp, hq, hq.kept k1 h.ne.symm⟩, (c.other k1 h.lp hbp).other k2 h.lq hbq, h.hn, (hp.put hk 1).kept k2 h.ne, (hq.kept k1 h.ne.symm).put hk 1, fun i => ?_, fun i hi => ?_, h.lp, h.lq, h.ne⟩
  · have := h.hs i
    simp only [put]; split <;> omega
  · simp only [Pt.set, put] at hi ⊢
    by_cases e : i = k
    · rw [if_pos e] at hi; omega
    · rw [if_neg e] at hi ⊢; exact h.hz i hi
/-- Behind a call that leaves the paint as it is. -/
theorem Way.same (h : Way w0 w b p q n P sh) (c : CSt w0 w' b P) (e : Kept (· = b) w w') : Way w0 w' b p q n P sh :=
  ⟨c, h.hn, h.fp.kept e (h.fp.ne h.c.p), h.fq.kept e (h.fq.ne h.c.p), h.hs, h.hz, h.lp, h.lq, h.ne⟩
/-- Behind Blacken of a grey slot, and the store. -/
theorem Way.blackened (h : Way w0 w b p q n P sh) (hk : k < n) (h1 : P.c k = 1) (c : CSt w0 w' b (P.turn k 1 2)) (e : Kept (· = b) w w') :
    Bl w' p n P.c ∧ Way w0 (w'.setCell ⟨p, k, none⟩ (.int .i64 2)) b p q n (P.set k 2) sh := by
  have hp := h.fp.kept e (h.fp.ne h.c.p)
  have hq := h.fq.kept e (h.fq.ne h.c.p)
  have hbp := (h.fp.ne h.c.p).symm
  have k1 : Kept (· = p) w' (w'.setCell ⟨p, k, none⟩ (.int .i64 2)) := (Kept.refl _ w').put1 _ _
  rw [turn_set (by have := h.hn; omega) 2 h1] at c
  refine ⟨hp, c.other k1 h.lp hbp, h.hn, hp.put hk 2, hq.kept k1 h.ne.symm, h.hs, fun i hi => ?_, h.lp, h.lq, h.ne⟩
  simp only [Pt.set, put] at hi
  by_cases e : i = k
  · rw [if_pos e] at hi; omega
  · rw [if_neg e] at hi; exact h.hz i hi
end
theorem of_val {P : Pt} {j : Nat} (h : j < P.n) : P.of_ j = P.c j := by unfold Pt.of_; rw [if_pos ((P.at_nat j).2 h), Int.toNat_natCast]
set_option maxRecDepth 100000 in
set_option maxHeartbeats 16000000 in
theorem way_lt (sz : Nat) (a : Option Addr) (len cap : Nat) (s : Nat → Nat) (w : World) (hsz : sz ≤ 255) (hle : len ≤ cap) (_hcap : cap ≤ 9223372036854775807) (hu : Nums .u16 65535 w a len s) (hc : len < 200) :
    Calls Try.prog 5 #[.int .u8 sz, .slice a len cap] w fun e w' => e = .returned (.bool true) ∧ Below w.heap.size w w' := by
  obtain ⟨n, hn⟩ : ∃ n, n = sz + 1 := ⟨_, rfl⟩
  have EN : Hid ((1 : Int) + (sz : Int) = (n : Int)) := by unfold Hid; omega
  have hn256 : 1 ≤ n ∧ n ≤ 256 := by omega
  have HU := Lib.hid (hu.cut (m := len) (by omega))
  have hmk := make_int n (by omega)
  clear hu hn
  go_enter Try.func5, Try.ntmps5
  go_wp2_with fail
  rw [EN.out]
  refine (new_ok n _ hn256.1 hn256.2).mono ?_
  rintro e w1 ⟨rfl, h1, hb1⟩
  have S1 : Hid (CSt w w1 w.heap.size (white n)) := ⟨h1, hb1, Nat.le_refl _⟩
  clear h1 hb1
  generalize w.heap.size = b at *
  go_upto_region 5 with fail
  go_cut [8, 9] from 31 to 34 (fun v8 v9 wx => ∃ p q, v8 = .slice (some ⟨p, 0, none⟩) n n ∧ v9 = .slice (some ⟨q, 0, none⟩) n n ∧ Hid (Way w wx b p q n (white n) (fun _ => 0)))
  case first =>
    have HW1 := Lib.hid (way_new S1.out rfl)
    go_region
    · go_wp2
      go_meet
      exact ⟨_, _, rfl, rfl, HW1.out.1⟩
    · go_wp2
      go_meet
      exact ⟨_, _, rfl, rfl, HW1.out.2⟩
  case rest =>
    obtain ⟨p, q, rfl, rfl, HW⟩ := hcut
    clear hmk S1
    go_wp2
    go_loopw [41] (fun v wr => ∃ (k : Nat) (P : Pt) (sh : Nat → Nat), k ≤ len ∧ v = .int .i64 k ∧ Hid (Way w wr b p q n P sh)) (fun v _ => len - (intOf v).toNat)
    case atStart => exact ⟨0, _, _, Nat.zero_le _, rfl, HW.out⟩
    case round =>
      obtain ⟨k, P, sh, hk, rfl, HS⟩ := hrel
      by_cases hlt : k < len
      · obtain ⟨B, off, rfl, hB, hcells⟩ := (HU.out.below HS.out.c.bel).at_ (by omega)
        have hcx := hcells k (by omega)
        have hx16 := HU.out.bd k (by omega)
        obtain ⟨y, hy⟩ : ∃ y, s k / 2 = y := ⟨_, rfl⟩
        obtain ⟨j, hj⟩ : ∃ j, y % n = j := ⟨_, rfl⟩
        have hjn : j < n := by rw [← hj]; exact Nat.mod_lt _ (by omega)
        clear hcells
        generalize s k = x at *
        have h2 : (x : Int) / 2 = (y : Int) := by omega
        have hy16 : y ≤ 32767 := by omega
        have e2 : (y : Int) % (n : Int) = (j : Int) := by
          have := congrArg (fun n : Nat => (n : Int)) hj
          simpa using this
        have e1 : (y : Int).tmod (n : Int) = (j : Int) := by rw [Int.tmod_eq_emod_of_nonneg (by omega)]; exact e2
        have HJ : Hid (j < P.n) := by have := HS.out.hn; unfold Hid; omega
        have hpl := HS.out.fp.lt
        have hql := HS.out.fq.lt
        have HPL := Lib.hid (And.intro hpl hql)
        clear hj hy hpl hql
        cases hbit : (bits BinOp.and IntKind.u16 (x : Int) 1 == 0)
        · by_cases h1 : P.c j = 1
          · have OP := Lib.hid (black_s j 0 HS.out.c (by rw [turnE_in HJ.out, if_pos h1]))
            go_wp2_with fail
            refine OP.out.mono ?_
            rintro e w3 ⟨rfl, s3, k3⟩
            obtain ⟨bp, hw4⟩ := HS.out.blackened hjn h1 s3 k3
            have hv : w3.cell? ⟨p, j, none⟩ = some (.int .i64 1) := by rw [bp.val hjn, h1]; rfl
            have hf := bp.fz j
            have hpl := bp.lt
            have W4 := Lib.hid hw4
            clear s3 k3 bp hw4 OP hcx hbit e1 e2 h2
            go_wp2_with fail
            obtain ⟨w4, e4⟩ : ∃ w4, w3.setCell ⟨p, j, none⟩ (.int .i64 2) = w4 := ⟨_, rfl⟩
            rw [e4] at W4 ⊢
            have hv4 : w4.cell? ⟨p, j, none⟩ = some (.int .i64 2) := by rw [W4.out.fp.val hjn]; simp [Pt.set, put]
            have hu4 := W4.out.fq.val hjn
            have hs1 := W4.out.hs j
            have hp4 := W4.out.fp.lt
            have hq4 := W4.out.fq.lt
            clear e4 hv hf hpl
            refine (of_s j 2 0 W4.out.c (by rw [of_val (show j < (P.set j 2).n from HJ.out)]; simp [Pt.set, put]) (chk_in HJ.out)).mono ?_
            rintro e w' ⟨rfl, rfl⟩
            generalize sh j = z at *
            go_wp2
            go_roundw
            case rel => exact ⟨k + 1, _, _, by omega, by go_num, W4.out⟩
            case measure => simp [intOf]; omega
          · have OP := Lib.hid (black_s j 8 HS.out.c (by rw [turnE_in HJ.out, if_neg h1]))
            go_wp2_with fail
            refine OP.out.mono ?_
            rintro e w3 ⟨rfl, s3, k3⟩
            rw [turn_same j 2 h1] at s3
            have W4 := Lib.hid (HS.out.same s3 k3)
            have hv4 := W4.out.fp.val hjn
            have hu4 := W4.out.fq.val hjn
            have hs1 := W4.out.hs j
            have hp4 := W4.out.fp.lt
            have hq4 := W4.out.fq.lt
            have OF := Lib.hid (of_s j (P.c j) 0 W4.out.c (of_val HJ.out) (chk_in HJ.out))
            generalize P.c j = c at *
            generalize sh j = z at *
            have hc1 : ((c : Int) == 1) = false := by simp; omega
            have hcc : ((c : Int) != (c : Int)) = false := by simp
            clear s3 k3 OP hcx hbit e1 e2 h2 h1
            go_wp2_with (go_at_call 25; refine OF.out.mono ?_; rintro e w' ⟨rfl, rfl⟩)
            go_roundw
            case rel => exact ⟨k + 1, _, _, by omega, by go_num, W4.out⟩
            case measure => simp [intOf]; omega
        · by_cases h0 : P.c j = 0
          · have OP := Lib.hid (shade_s j true 0 HS.out.c (by rw [shadeB_in HJ.out, decide_eq_true h0]) (chk_in HJ.out))
            go_wp2_with fail
            refine OP.out.mono ?_
            rintro e w3 ⟨rfl, s3, k3⟩
            obtain ⟨⟨bp, bq, bq2⟩, hw4⟩ := HS.out.shaded hjn h0 s3 k3
            have hz := HS.out.hz j h0
            have hv : w3.cell? ⟨p, j, none⟩ = some (.int .i64 0) := by rw [bp.val hjn, h0]; rfl
            have hf := bp.fz j
            have hpl := bp.lt
            have hv2 : w3.cell? ⟨q, j, none⟩ = some (.int .i64 0) := by rw [bq.val hjn, hz]; rfl
            have hv3 : (w3.setCell ⟨p, j, none⟩ (.int .i64 1)).cell? ⟨q, j, none⟩ = some (.int .i64 0) := by rw [bq2.val hjn, hz]; rfl
            have hf3 := bq2.fz j
            have hf2 := bq.fz j
            have hql := bq.lt
            have hpq := HS.out.ne
            have W4 := Lib.hid hw4
            clear s3 k3 bp bq bq2 hw4 OP hcx hbit e1 e2 h2
            go_wp2_with fail
            obtain ⟨w4, e4⟩ : ∃ w4, (w3.setCell ⟨p, j, none⟩ (.int .i64 1)).setCell ⟨q, j, none⟩ (.int .i64 1) = w4 := ⟨_, rfl⟩
            rw [e4] at W4 ⊢
            have hv4 : w4.cell? ⟨p, j, none⟩ = some (.int .i64 1) := by rw [W4.out.fp.val hjn]; simp [Pt.set, put]
            have hu4 : w4.cell? ⟨q, j, none⟩ = some (.int .i64 1) := by rw [W4.out.fq.val hjn]; simp [put]
            have hp4 := W4.out.fp.lt
            have hq4 := W4.out.fq.lt
            clear e4 hv hf hpl hv2 hv3 hf2 hf3 hql hpq hz
            refine (of_s j 1 0 W4.out.c (by rw [of_val (show j < (P.set j 1).n from HJ.out)]; simp [Pt.set, put]) (chk_in HJ.out)).mono ?_
            rintro e w' ⟨rfl, rfl⟩
            go_wp2
            go_roundw
            case rel => exact ⟨k + 1, _, _, by omega, by go_num, W4.out⟩
            case measure => simp [intOf]; omega
          · have OP := Lib.hid (shade_s j false 0 HS.out.c (by rw [shadeB_in HJ.out, decide_eq_false h0]) (chk_in HJ.out))
            go_wp2_with fail
            refine OP.out.mono ?_
            rintro e w3 ⟨rfl, s3, k3⟩
            rw [turn_same j 1 h0] at s3
            have W4 := Lib.hid (HS.out.same s3 k3)
            have hv4 := W4.out.fp.val hjn
            have hu4 := W4.out.fq.val hjn
            have hs1 := W4.out.hs j
            have hp4 := W4.out.fp.lt
            have hq4 := W4.out.fq.lt
            have OF := Lib.hid (of_s j (P.c j) 0 W4.out.c (of_val HJ.out) (chk_in HJ.out))
            generalize P.c j = c at *
            generalize sh j = z at *
            have hc1 : ((c : Int) == 0) = false := by simp; omega
            have hcc : ((c : Int) != (c : Int)) = false := by simp
            clear s3 k3 OP hcx hbit e1 e2 h2 h0
            go_wp2_with (go_at_call 25; refine OF.out.mono ?_; rintro e w' ⟨rfl, rfl⟩)
            go_roundw
            case rel => exact ⟨k + 1, _, _, by omega, by go_num, W4.out⟩
            case measure => simp [intOf]; omega
      · clear HW
        go_wp2
        go_loopw [129] (fun v wr => ∃ i : Nat, i ≤ n ∧ v = .int .i64 i ∧ Hid (Way w wr b p q n P sh)) (fun v _ => n - (intOf v).toNat)
        case atStart => exact ⟨0, Nat.zero_le _, rfl, HS.out⟩
        case round =>
          obtain ⟨i, hi, rfl, HV⟩ := hrel
          by_cases hlt2 : i < n
          · have hv := HV.out.fp.val hlt2
            have hpl := HV.out.fp.lt
            have OF := Lib.hid (of_s i (P.c i) 0 HV.out.c (of_val (by have := HV.out.hn; omega)) (chk_in (by have := HV.out.hn; omega)))
            generalize P.c i = c at *
            have hcc : ((c : Int) != (c : Int)) = false := by simp
            go_wp2_with (go_at_call 25; refine OF.out.mono ?_; rintro e w' ⟨rfl, rfl⟩)
            go_roundw
            case rel => exact ⟨i + 1, by omega, by go_num, HV.out⟩
            case measure => simp [intOf]; omega
          · obtain rfl : i = n := by omega
            go_wp2_with fail
            refine (works_ok _).mono ?_
            rintro e wz ⟨rfl, hb⟩
            have HB := Lib.hid (bel2 HV.out.c.bel hb)
            clear hb
            go_wp2
            go_ret
            exact ⟨rfl, HB.out⟩
set_option maxRecDepth 100000 in
set_option maxHeartbeats 16000000 in
theorem way_eq (sz : Nat) (a : Option Addr) (len cap : Nat) (s : Nat → Nat) (w : World) (hsz : sz ≤ 255) (hle : len ≤ cap) (hcap : cap ≤ 9223372036854775807) (hu : Nums .u16 65535 w a len s) (hc : len = 200) :
    Calls Try.prog 5 #[.int .u8 sz, .slice a len cap] w fun e w' => e = .returned (.bool true) ∧ Below w.heap.size w w' := by
  obtain ⟨n, hn⟩ : ∃ n, n = sz + 1 := ⟨_, rfl⟩
  have EN : Hid ((1 : Int) + (sz : Int) = (n : Int)) := by unfold Hid; omega
  have hn256 : 1 ≤ n ∧ n ≤ 256 := by omega
  have HU := Lib.hid (hu.cut (m := 200) (by omega))
  have hmk := make_int n (by omega)
  clear hu hn
  subst hc
  go_enter Try.func5, Try.ntmps5
  go_wp2_with fail
  rw [EN.out]
  refine (new_ok n _ hn256.1 hn256.2).mono ?_
  rintro e w1 ⟨rfl, h1, hb1⟩
  have S1 : Hid (CSt w w1 w.heap.size (white n)) := ⟨h1, hb1, Nat.le_refl _⟩
  clear h1 hb1
  generalize w.heap.size = b at *
  go_upto_region 5 with fail
  go_cut [8, 9] from 31 to 34 (fun v8 v9 wx => ∃ p q, v8 = .slice (some ⟨p, 0, none⟩) n n ∧ v9 = .slice (some ⟨q, 0, none⟩) n n ∧ Hid (Way w wx b p q n (white n) (fun _ => 0)))
  case first =>
    have HW1 := Lib.hid (way_new S1.out rfl)
    go_region
    · go_wp2
      go_meet
      exact ⟨_, _, rfl, rfl, HW1.out.1⟩
    · go_wp2
      go_meet
      exact ⟨_, _, rfl, rfl, HW1.out.2⟩
  case rest =>
    obtain ⟨p, q, rfl, rfl, HW⟩ := hcut
    clear hmk S1
    go_wp2
    go_loopw [41] (fun v wr => ∃ (k : Nat) (P : Pt) (sh : Nat → Nat), k ≤ 200 ∧ v = .int .i64 k ∧ Hid (Way w wr b p q n P sh)) (fun v _ => 200 - (intOf v).toNat)
    case atStart => exact ⟨0, _, _, Nat.zero_le _, rfl, HW.out⟩
    case round =>
      obtain ⟨k, P, sh, hk, rfl, HS⟩ := hrel
      by_cases hlt : k < 200
      · obtain ⟨B, off, rfl, hB, hcells⟩ := (HU.out.below HS.out.c.bel).at_ (by omega)
        have hcx := hcells k (by omega)
        have hx16 := HU.out.bd k (by omega)
        obtain ⟨y, hy⟩ : ∃ y, s k / 2 = y := ⟨_, rfl⟩
        obtain ⟨j, hj⟩ : ∃ j, y % n = j := ⟨_, rfl⟩
        have hjn : j < n := by rw [← hj]; exact Nat.mod_lt _ (by omega)
        clear hcells
        generalize s k = x at *
        have h2 : (x : Int) / 2 = (y : Int) := by omega
        have hy16 : y ≤ 32767 := by omega
        have e2 : (y : Int) % (n : Int) = (j : Int) := by
          have := congrArg (fun n : Nat => (n : Int)) hj
          simpa using this
        have e1 : (y : Int).tmod (n : Int) = (j : Int) := by rw [Int.tmod_eq_emod_of_nonneg (by omega)]; exact e2
        have HJ : Hid (j < P.n) := by have := HS.out.hn; unfold Hid; omega
        have hpl := HS.out.fp.lt
        have hql := HS.out.fq.lt
        have HPL := Lib.hid (And.intro hpl hql)
        clear hj hy hpl hql
        cases hbit : (bits BinOp.and IntKind.u16 (x : Int) 1 == 0)
        · by_cases h1 : P.c j = 1
          · have OP := Lib.hid (black_s j 0 HS.out.c (by rw [turnE_in HJ.out, if_pos h1]))
            go_wp2_with fail
            refine OP.out.mono ?_
            rintro e w3 ⟨rfl, s3, k3⟩
            obtain ⟨bp, hw4⟩ := HS.out.blackened hjn h1 s3 k3
            have hv : w3.cell? ⟨p, j, none⟩ = some (.int .i64 1) := by rw [bp.val hjn, h1]; rfl
            have hf := bp.fz j
            have hpl := bp.lt
            have W4 := Lib.hid hw4
            clear s3 k3 bp hw4 OP hcx hbit e1 e2 h2
            go_wp2_with fail
            obtain ⟨w4, e4⟩ : ∃ w4, w3.setCell ⟨p, j, none⟩ (.int .i64 2) = w4 := ⟨_, rfl⟩
            rw [e4] at W4 ⊢
            have hv4 : w4.cell? ⟨p, j, none⟩ = some (.int .i64 2) := by rw [W4.out.fp.val hjn]; simp [Pt.set, put]
            have hu4 := W4.out.fq.val hjn
            have hs1 := W4.out.hs j
            have hp4 := W4.out.fp.lt
            have hq4 := W4.out.fq.lt
            clear e4 hv hf hpl
            refine (of_s j 2 0 W4.out.c (by rw [of_val (show j < (P.set j 2).n from HJ.out)]; simp [Pt.set, put]) (chk_in HJ.out)).mono ?_
            rintro e w' ⟨rfl, rfl⟩
            generalize sh j = z at *
            go_wp2
            go_roundw
            case rel => exact ⟨k + 1, _, _, by omega, by go_num, W4.out⟩
            case measure => simp [intOf]; omega
          · have OP := Lib.hid (black_s j 8 HS.out.c (by rw [turnE_in HJ.out, if_neg h1]))
            go_wp2_with fail
            refine OP.out.mono ?_
            rintro e w3 ⟨rfl, s3, k3⟩
            rw [turn_same j 2 h1] at s3
            have W4 := Lib.hid (HS.out.same s3 k3)
            have hv4 := W4.out.fp.val hjn
            have hu4 := W4.out.fq.val hjn
            have hs1 := W4.out.hs j
            have hp4 := W4.out.fp.lt
            have hq4 := W4.out.fq.lt
            have OF := Lib.hid (of_s j (P.c j) 0 W4.out.c (of_val HJ.out) (chk_in HJ.out))
            generalize P.c j = c at *
            generalize sh j = z at *
            have hc1 : ((c : Int) == 1) = false := by simp; omega
            have hcc : ((c : Int) != (c : Int)) = false := by simp
            clear s3 k3 OP hcx hbit e1 e2 h2 h1
            go_wp2_with (go_at_call 25; refine OF.out.mono ?_; rintro e w' ⟨rfl, rfl⟩)
            go_roundw
            case rel => exact ⟨k + 1, _, _, by omega, by go_num, W4.out⟩
            case measure => simp [intOf]; omega
        · by_cases h0 : P.c j = 0
          · have OP := Lib.hid (shade_s j true 0 HS.out.c (by rw [shadeB_in HJ.out, decide_eq_true h0]) (chk_in HJ.out))
            go_wp2_with fail
            refine OP.out.mono ?_
            rintro e w3 ⟨rfl, s3, k3⟩
            obtain ⟨⟨bp, bq, bq2⟩, hw4⟩ := HS.out.shaded hjn h0 s3 k3
            have hz := HS.out.hz j h0
            have hv : w3.cell? ⟨p, j, none⟩ = some (.int .i64 0) := by rw [bp.val hjn, h0]; rfl
            have hf := bp.fz j
            have hpl := bp.lt
            have hv2 : w3.cell? ⟨q, j, none⟩ = some (.int .i64 0) := by rw [bq.val hjn, hz]; rfl
            have hv3 : (w3.setCell ⟨p, j, none⟩ (.int .i64 1)).cell? ⟨q, j, none⟩ = some (.int .i64 0) := by rw [bq2.val hjn, hz]; rfl
            have hf3 := bq2.fz j
            have hf2 := bq.fz j
            have hql := bq.lt
            have hpq := HS.out.ne
            have W4 := Lib.hid hw4
            clear s3 k3 bp bq bq2 hw4 OP hcx hbit e1 e2 h2
            go_wp2_with fail
            obtain ⟨w4, e4⟩ : ∃ w4, (w3.setCell ⟨p, j, none⟩ (.int .i64 1)).setCell ⟨q, j, none⟩ (.int .i64 1) = w4 := ⟨_, rfl⟩
            rw [e4] at W4 ⊢
            have hv4 : w4.cell? ⟨p, j, none⟩ = some (.int .i64 1) := by rw [W4.out.fp.val hjn]; simp [Pt.set, put]
            have hu4 : w4.cell? ⟨q, j, none⟩ = some (.int .i64 1) := by rw [W4.out.fq.val hjn]; simp [put]
            have hp4 := W4.out.fp.lt
            have hq4 := W4.out.fq.lt
            clear e4 hv hf hpl hv2 hv3 hf2 hf3 hql hpq hz
            refine (of_s j 1 0 W4.out.c (by rw [of_val (show j < (P.set j 1).n from HJ.out)]; simp [Pt.set, put]) (chk_in HJ.out)).mono ?_
            rintro e w' ⟨rfl, rfl⟩
            go_wp2
            go_roundw
            case rel => exact ⟨k + 1, _, _, by omega, by go_num, W4.out⟩
            case measure => simp [intOf]; omega
          · have OP := Lib.hid (shade_s j false 0 HS.out.c (by rw [shadeB_in HJ.out, decide_eq_false h0]) (chk_in HJ.out))
            go_wp2_with fail
            refine OP.out.mono ?_
            rintro e w3 ⟨rfl, s3, k3⟩
            rw [turn_same j 1 h0] at s3
            have W4 := Lib.hid (HS.out.same s3 k3)
            have hv4 := W4.out.fp.val hjn
            have hu4 := W4.out.fq.val hjn
            have hs1 := W4.out.hs j
            have hp4 := W4.out.fp.lt
            have hq4 := W4.out.fq.lt
            have OF := Lib.hid (of_s j (P.c j) 0 W4.out.c (of_val HJ.out) (chk_in HJ.out))
            generalize P.c j = c at *
            generalize sh j = z at *
            have hc1 : ((c : Int) == 0) = false := by simp; omega
            have hcc : ((c : Int) != (c : Int)) = false := by simp
            clear s3 k3 OP hcx hbit e1 e2 h2 h0
            go_wp2_with (go_at_call 25; refine OF.out.mono ?_; rintro e w' ⟨rfl, rfl⟩)
            go_roundw
            case rel => exact ⟨k + 1, _, _, by omega, by go_num, W4.out⟩
            case measure => simp [intOf]; omega
      · clear HW
        go_wp2
        go_loopw [129] (fun v wr => ∃ i : Nat, i ≤ n ∧ v = .int .i64 i ∧ Hid (Way w wr b p q n P sh)) (fun v _ => n - (intOf v).toNat)
        case atStart => exact ⟨0, Nat.zero_le _, rfl, HS.out⟩
        case round =>
          obtain ⟨i, hi, rfl, HV⟩ := hrel
          by_cases hlt2 : i < n
          · have hv := HV.out.fp.val hlt2
            have hpl := HV.out.fp.lt
            have OF := Lib.hid (of_s i (P.c i) 0 HV.out.c (of_val (by have := HV.out.hn; omega)) (chk_in (by have := HV.out.hn; omega)))
            generalize P.c i = c at *
            have hcc : ((c : Int) != (c : Int)) = false := by simp
            go_wp2_with (go_at_call 25; refine OF.out.mono ?_; rintro e w' ⟨rfl, rfl⟩)
            go_roundw
            case rel => exact ⟨i + 1, by omega, by go_num, HV.out⟩
            case measure => simp [intOf]; omega
          · obtain rfl : i = n := by omega
            go_wp2_with fail
            refine (works_ok _).mono ?_
            rintro e wz ⟨rfl, hb⟩
            have HB := Lib.hid (bel2 HV.out.c.bel hb)
            clear hb
            go_wp2
            go_ret
            exact ⟨rfl, HB.out⟩
set_option maxRecDepth 100000 in
set_option maxHeartbeats 16000000 in
theorem way_gt (sz : Nat) (a : Option Addr) (len cap : Nat) (s : Nat → Nat) (w : World) (hsz : sz ≤ 255) (hle : len ≤ cap) (hcap : cap ≤ 9223372036854775807) (hu : Nums .u16 65535 w a len s) (hc : 200 < len) :
    Calls Try.prog 5 #[.int .u8 sz, .slice a len cap] w fun e w' => e = .returned (.bool true) ∧ Below w.heap.size w w' := by
  obtain ⟨n, hn⟩ : ∃ n, n = sz + 1 := ⟨_, rfl⟩
  have EN : Hid ((1 : Int) + (sz : Int) = (n : Int)) := by unfold Hid; omega
  have hn256 : 1 ≤ n ∧ n ≤ 256 := by omega
  have HU := Lib.hid (hu.cut (m := 200) (by omega))
  have hmk := make_int n (by omega)
  clear hu hn
  go_enter Try.func5, Try.ntmps5
  go_wp2_with fail
  rw [EN.out]
  refine (new_ok n _ hn256.1 hn256.2).mono ?_
  rintro e w1 ⟨rfl, h1, hb1⟩
  have S1 : Hid (CSt w w1 w.heap.size (white n)) := ⟨h1, hb1, Nat.le_refl _⟩
  clear h1 hb1
  generalize w.heap.size = b at *
  go_upto_region 5 with fail
  go_cut [8, 9] from 31 to 34 (fun v8 v9 wx => ∃ p q, v8 = .slice (some ⟨p, 0, none⟩) n n ∧ v9 = .slice (some ⟨q, 0, none⟩) n n ∧ Hid (Way w wx b p q n (white n) (fun _ => 0)))
  case first =>
    have HW1 := Lib.hid (way_new S1.out rfl)
    go_region
    · go_wp2
      go_meet
      exact ⟨_, _, rfl, rfl, HW1.out.1⟩
    · go_wp2
      go_meet
      exact ⟨_, _, rfl, rfl, HW1.out.2⟩
  case rest =>
    obtain ⟨p, q, rfl, rfl, HW⟩ := hcut
    clear hmk S1
    go_wp2
    go_loopw [41] (fun v wr => ∃ (k : Nat) (P : Pt) (sh : Nat → Nat), k ≤ 200 ∧ v = .int .i64 k ∧ Hid (Way w wr b p q n P sh)) (fun v _ => 200 - (intOf v).toNat)
    case atStart => exact ⟨0, _, _, Nat.zero_le _, rfl, HW.out⟩
    case round =>
      obtain ⟨k, P, sh, hk, rfl, HS⟩ := hrel
      by_cases hlt : k < 200
      · obtain ⟨B, off, rfl, hB, hcells⟩ := (HU.out.below HS.out.c.bel).at_ (by omega)
        have hcx := hcells k (by omega)
        have hx16 := HU.out.bd k (by omega)
        obtain ⟨y, hy⟩ : ∃ y, s k / 2 = y := ⟨_, rfl⟩
        obtain ⟨j, hj⟩ : ∃ j, y % n = j := ⟨_, rfl⟩
        have hjn : j < n := by rw [← hj]; exact Nat.mod_lt _ (by omega)
        clear hcells
        generalize s k = x at *
        have h2 : (x : Int) / 2 = (y : Int) := by omega
        have hy16 : y ≤ 32767 := by omega
        have e2 : (y : Int) % (n : Int) = (j : Int) := by
          have := congrArg (fun n : Nat => (n : Int)) hj
          simpa using this
        have e1 : (y : Int).tmod (n : Int) = (j : Int) := by rw [Int.tmod_eq_emod_of_nonneg (by omega)]; exact e2
        have HJ : Hid (j < P.n) := by have := HS.out.hn; unfold Hid; omega
        have hpl := HS.out.fp.lt
        have hql := HS.out.fq.lt
        have HPL := Lib.hid (And.intro hpl hql)
        clear hj hy hpl hql
        cases hbit : (bits BinOp.and IntKind.u16 (x : Int) 1 == 0)
        · by_cases h1 : P.c j = 1
          · have OP := Lib.hid (black_s j 0 HS.out.c (by rw [turnE_in HJ.out, if_pos h1]))
            go_wp2_with fail
            refine OP.out.mono ?_
            rintro e w3 ⟨rfl, s3, k3⟩
            obtain ⟨bp, hw4⟩ := HS.out.blackened hjn h1 s3 k3
            have hv : w3.cell? ⟨p, j, none⟩ = some (.int .i64 1) := by rw [bp.val hjn, h1]; rfl
            have hf := bp.fz j
            have hpl := bp.lt
            have W4 := Lib.hid hw4
            clear s3 k3 bp hw4 OP hcx hbit e1 e2 h2
            go_wp2_with fail
            obtain ⟨w4, e4⟩ : ∃ w4, w3.setCell ⟨p, j, none⟩ (.int .i64 2) = w4 := ⟨_, rfl⟩
            rw [e4] at W4 ⊢
            have hv4 : w4.cell? ⟨p, j, none⟩ = some (.int .i64 2) := by rw [W4.out.fp.val hjn]; simp [Pt.set, put]
            have hu4 := W4.out.fq.val hjn
            have hs1 := W4.out.hs j
            have hp4 := W4.out.fp.lt
            have hq4 := W4.out.fq.lt
            clear e4 hv hf hpl
            refine (of_s j 2 0 W4.out.c (by rw [of_val (show j < (P.set j 2).n from HJ.out)]; simp [Pt.set, put]) (chk_in HJ.out)).mono ?_
            rintro e w' ⟨rfl, rfl⟩
            generalize sh j = z at *
            go_wp2
            go_roundw
            case rel => exact ⟨k + 1, _, _, by omega, by go_num, W4.out⟩
            case measure => simp [intOf]; omega
          · have OP := Lib.hid (black_s j 8 HS.out.c (by rw [turnE_in HJ.out, if_neg h1]))
            go_wp2_with fail
            refine OP.out.mono ?_
            rintro e w3 ⟨rfl, s3, k3⟩
            rw [turn_same j 2 h1] at s3
            have W4 := Lib.hid (HS.out.same s3 k3)
            have hv4 := W4.out.fp.val hjn
            have hu4 := W4.out.fq.val hjn
            have hs1 := W4.out.hs j
            have hp4 := W4.out.fp.lt
            have hq4 := W4.out.fq.lt
            have OF := Lib.hid (of_s j (P.c j) 0 W4.out.c (of_val HJ.out) (chk_in HJ.out))
            generalize P.c j = c at *
            generalize sh j = z at *
            have hc1 : ((c : Int) == 1) = false := by simp; omega
            have hcc : ((c : Int) != (c : Int)) = false := by simp
            clear s3 k3 OP hcx hbit e1 e2 h2 h1
            go_wp2_with (go_at_call 25; refine OF.out.mono ?_; rintro e w' ⟨rfl, rfl⟩)
            go_roundw
            case rel => exact ⟨k + 1, _, _, by omega, by go_num, W4.out⟩
            case measure => simp [intOf]; omega
        · by_cases h0 : P.c j = 0
          · have OP := Lib.hid (shade_s j true 0 HS.out.c (by rw [shadeB_in HJ.out, decide_eq_true h0]) (chk_in HJ.out))
            go_wp2_with fail
            refine OP.out.mono ?_
            rintro e w3 ⟨rfl, s3, k3⟩
            obtain ⟨⟨bp, bq, bq2⟩, hw4⟩ := HS.out.shaded hjn h0 s3 k3
            have hz := HS.out.hz j h0
            have hv : w3.cell? ⟨p, j, none⟩ = some (.int .i64 0) := by rw [bp.val hjn, h0]; rfl
            have hf := bp.fz j
            have hpl := bp.lt
            have hv2 : w3.cell? ⟨q, j, none⟩ = some (.int .i64 0) := by rw [bq.val hjn, hz]; rfl
            have hv3 : (w3.setCell ⟨p, j, none⟩ (.int .i64 1)).cell? ⟨q, j, none⟩ = some (.int .i64 0) := by rw [bq2.val hjn, hz]; rfl
            have hf3 := bq2.fz j
            have hf2 := bq.fz j
            have hql := bq.lt
            have hpq := HS.out.ne
            have W4 := Lib.hid hw4
            clear s3 k3 bp bq bq2 hw4 OP hcx hbit e1 e2 h2
            go_wp2_with fail
            obtain ⟨w4, e4⟩ : ∃ w4, (w3.setCell ⟨p, j, none⟩ (.int .i64 1)).setCell ⟨q, j, none⟩ (.int .i64 1) = w4 := ⟨_, rfl⟩
            rw [e4] at W4 ⊢
            have hv4 : w4.cell? ⟨p, j, none⟩ = some (.int .i64 1) := by rw [W4.out.fp.val hjn]; simp [Pt.set, put]
            have hu4 : w4.cell? ⟨q, j, none⟩ = some (.int .i64 1) := by rw [W4.out.fq.val hjn]; simp [put]
            have hp4 := W4.out.fp.lt
            have hq4 := W4.out.fq.lt
            clear e4 hv hf hpl hv2 hv3 hf2 hf3 hql hpq hz
            refine (of_s j 1 0 W4.out.c (by rw [of_val (show j < (P.set j 1).n from HJ.out)]; simp [Pt.set, put]) (chk_in HJ.out)).mono ?_
            rintro e w' ⟨rfl, rfl⟩
            go_wp2
            go_roundw
            case rel => exact ⟨k + 1, _, _, by omega, by go_num, W4.out⟩
            case measure => simp [intOf]; omega
          · have OP := Lib.hid (shade_s j false 0 HS.out.c (by rw [shadeB_in HJ.out, decide_eq_false h0]) (chk_in HJ.out))
            go_wp2_with fail
            refine OP.out.mono ?_
            rintro e w3 ⟨rfl, s3, k3⟩
            rw [turn_same j 1 h0] at s3
            have W4 := Lib.hid (HS.out.same s3 k3)
            have hv4 := W4.out.fp.val hjn
            have hu4 := W4.out.fq.val hjn
            have hs1 := W4.out.hs j
            have hp4 := W4.out.fp.lt
            have hq4 := W4.out.fq.lt
            have OF := Lib.hid (of_s j (P.c j) 0 W4.out.c (of_val HJ.out) (chk_in HJ.out))
            generalize P.c j = c at *
            generalize sh j = z at *
            have hc1 : ((c : Int) == 0) = false := by simp; omega
            have hcc : ((c : Int) != (c : Int)) = false := by simp
            clear s3 k3 OP hcx hbit e1 e2 h2 h0
            go_wp2_with (go_at_call 25; refine OF.out.mono ?_; rintro e w' ⟨rfl, rfl⟩)
            go_roundw
            case rel => exact ⟨k + 1, _, _, by omega, by go_num, W4.out⟩
            case measure => simp [intOf]; omega
      · clear HW
        go_wp2
        go_loopw [129] (fun v wr => ∃ i : Nat, i ≤ n ∧ v = .int .i64 i ∧ Hid (Way w wr b p q n P sh)) (fun v _ => n - (intOf v).toNat)
        case atStart => exact ⟨0, Nat.zero_le _, rfl, HS.out⟩
        case round =>
          obtain ⟨i, hi, rfl, HV⟩ := hrel
          by_cases hlt2 : i < n
          · have hv := HV.out.fp.val hlt2
            have hpl := HV.out.fp.lt
            have OF := Lib.hid (of_s i (P.c i) 0 HV.out.c (of_val (by have := HV.out.hn; omega)) (chk_in (by have := HV.out.hn; omega)))
            generalize P.c i = c at *
            have hcc : ((c : Int) != (c : Int)) = false := by simp
            go_wp2_with (go_at_call 25; refine OF.out.mono ?_; rintro e w' ⟨rfl, rfl⟩)
            go_roundw
            case rel => exact ⟨i + 1, by omega, by go_num, HV.out⟩
            case measure => simp [intOf]; omega
          · obtain rfl : i = n := by omega
            go_wp2_with fail
            refine (works_ok _).mono ?_
            rintro e wz ⟨rfl, hb⟩
            have HB := Lib.hid (bel2 HV.out.c.bel hb)
            clear hb
            go_wp2
            go_ret
            exact ⟨rfl, HB.out⟩
theorem cWay_walk (sz : Int) (a : Option Addr) (len cap : Nat) (s : Nat → Nat) (w : World) (g0 : 0 ≤ sz) (g1 : sz ≤ 255) (hle : len ≤ cap) (hcap : cap ≤ 9223372036854775807) (hu : Nums .u16 65535 w a len s) :
    Calls Try.prog 5 #[.int .u8 sz, .slice a len cap] w fun e w' => e = .returned (.bool true) ∧ Below w.heap.size w w' := by
  obtain ⟨m, rfl⟩ := Int.eq_ofNat_of_zero_le g0
  rcases Nat.lt_trichotomy len 200 with h | h | h
  · exact way_lt m a len cap s w (by omega) hle hcap hu h
  · exact way_eq m a len cap s w (by omega) hle hcap hu h
  · exact way_gt m a len cap s w (by omega) hle hcap hu h
end Go.Proofs.Ythcpmcdgojgdlaa
