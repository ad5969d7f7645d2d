/- The contracts of the helpers painted and colours. -/
import Derived.Test.YthcpmcdgojgdlaaCw
import Derived.Test.YthcpmcdgojgdlaaCx
import Derived.OwnWalk
import Derived.Deep.RegionWith
namespace Go.Proofs.Ythcpmcdgojgdlaa
open Go.RowKit

theorem info_int : (Try.prog.info? 3).map (fun i => (i.zero, i.size, i.bytes)) = some (some (.int .i64 0), 1, 8) := by kernel_rfl
/-- The cells of a new array of n numbers. -/
def made_ (n : Nat) : Array Value := madeCells #[.int .i64 0] n
theorem made_size (n : Nat) : (made_ n).size = n := size_madeCells _ _
theorem made_at {n i : Nat} (h : i < n) : (made_ n)[i]? = some (.int .i64 0) := by
  have := toList_madeCells_one (.int .i64 0) n
  unfold made_
  rw [← Array.getElem?_toList, this]; simp [h]
theorem make_int (m : Nat) (hm : m ≤ 4096) (W : World) : (Instr.makeSlice 52 (.int .i64 m) (.int .i64 m)).run Try.prog W = .ok (.slice (some ⟨W.heap.size, 0, none⟩) m m) (W.alloc (.cells (made_ m) 3)) := by
  obtain ⟨i0, hi, hz0, hz1, hz2⟩ := info_parts info_int
  have := run_make (P := Try.prog) W 52 3 i0 _ Try.underlying52 hi hz0 .i64 .i64 m m (by omega) (by omega) (by rw [hz2]; omega) (by omega)
  rw [this, hz1]
  simp [made_, Value.cells]
/-- Block h holds n numbers, f's. -/
def Bl (w : World) (h n : Nat) (f : Nat → Nat) : Prop := ∃ cur, Bk w h 3 cur ∧ n ≤ cur.size ∧ ∀ i, i < n → cur[i]? = some (.int .i64 (f i))
section
variable {w w' : World} {h n : Nat} {f f' : Nat → Nat}
theorem Bl.lt (a : Bl w h n f) : h < w.heap.size := by obtain ⟨_, h1, _⟩ := a; exact h1.lt
theorem Bl.same (a : Bl w h n f) (e : w'.heap[h]? = w.heap[h]?) : Bl w' h n f := by obtain ⟨cur, h1, h2⟩ := a; exact ⟨cur, h1.same e, h2⟩
theorem Bl.below (a : Bl w h n f) (k : Below w.heap.size w w') : Bl w' h n f := a.same (k.block h a.lt)
theorem Bl.kept {S : Nat → Prop} (a : Bl w h n f) (k : Kept S w w') (hs : ¬ S h) : Bl w' h n f := a.same (k.block h a.lt hs)
theorem Bl.val (a : Bl w h n f) {i : Nat} (hi : i < n) : w.cell? ⟨h, i, none⟩ = some (.int .i64 (f i)) := by obtain ⟨cur, h1, _, h2⟩ := a; rw [h1.cell]; exact h2 i hi
theorem Bl.fz (a : Bl w h n f) (i : Nat) : w.frozen? ⟨h, i, none⟩ = false := by obtain ⟨cur, h1, _⟩ := a; exact h1.frozen i
theorem Bl.put (a : Bl w h n f) {j : Nat} (hj : j < n) (v : Nat) : Bl (w.setCell ⟨h, j, none⟩ (.int .i64 v)) h n (put f j v) := by
  obtain ⟨cur, h1, h2, h3⟩ := a
  refine ⟨cur.setIfInBounds j (.int .i64 v), h1.put j _, by simpa using h2, fun i hi => ?_⟩
  rw [Array.getElem?_setIfInBounds]
  by_cases e : j = i
  · subst e; rw [if_pos rfl, if_pos (by omega), put_same]
  · rw [if_neg e, h3 i hi, put_other (fun x => e x.symm)]
theorem Bl.congr (a : Bl w h n f) (e : ∀ i, i < n → f i = f' i) : Bl w h n f' := by obtain ⟨cur, h1, h2, h3⟩ := a; exact ⟨cur, h1, h2, fun i hi => by rw [h3 i hi, e i hi]⟩
theorem Bl.drewN (a : Bl w h n f) (q : Nat) : Bl (w.drewN q) h n f := a.same rfl
end
theorem Bl.made (w : World) (n : Nat) : Bl (w.alloc (.cells (made_ n) 3)) w.heap.size n (fun _ => 0) :=
  ⟨_, Bk.new _ _ _, by rw [made_size]; exact Nat.le_refl _, fun i hi => made_at hi⟩
/-- A block of numbers is no paint. -/
theorem Bl.ne {w : World} {h n b : Nat} {f : Nat → Nat} {P : Pt} (a : Bl w h n f) (p : PaW w b P) : h ≠ b := by
  rintro rfl
  obtain ⟨cur, h1, _⟩ := a
  exact absurd (h1.uniq p.bk).1 (by decide)

/-! ### colours -/
structure ColSt (w0 w : World) (b h n : Nat) (P : Pt) (k : Nat) : Prop where
  p : PaW w b P
  l : Bl w h n (fun i => if i < k then P.c i else 0)
  bel : Below w0.heap.size w0 w
set_option maxRecDepth 100000 in
set_option maxHeartbeats 4000000 in
theorem colours_ok (b n : Nat) (P : Pt) (w : World) (h : PaW w b P) (hn : P.n = n) :
    Calls Try.prog 29 #[.pointer (some ⟨b, 0, none⟩), .int .i64 n] w fun e w' => ∃ g, w.heap.size ≤ g ∧ e = .returned (.slice (some ⟨g, 0, none⟩) n n) ∧ Bl w' g n P.c ∧ Below w.heap.size w w' := by
  have hn256 : n ≤ 256 := by have := h.ok.hi; omega
  have hmk := make_int n (by omega)
  have ST : Hid (ColSt w (w.alloc (.cells (made_ n) 3)) b w.heap.size n P 0) := ⟨h.below (bel_new w _), (Bl.made w n).congr fun i _ => by simp, bel_new w _⟩
  have HN := Lib.hid hn
  clear h hn
  go_enter Try.func29, Try.ntmps29
  go_wp2
  obtain ⟨g, hg⟩ : ∃ g, w.heap.size = g := ⟨_, rfl⟩
  have HG : Hid (w.heap.size ≤ g) := by unfold Hid; omega
  rw [hg] at ST ⊢
  clear hg hmk
  go_loopw [13] (fun i wr => ∃ k : Nat, k ≤ n ∧ i = .int .i64 k ∧ Hid (ColSt w wr b g n P k)) (fun i _ => n - (intOf i).toNat)
  case atStart => exact ⟨0, Nat.zero_le _, rfl, ST.out⟩
  case round =>
    obtain ⟨k, hk, rfl, HS⟩ := hrel
    by_cases hlt : k < n
    · have hx := HS.out.p.ok.le k
      have HOF := Lib.hid (of_in b P k wr HS.out.p (by have := HN.out; omega))
      have hv := HS.out.l.val hlt
      have hf := HS.out.l.fz k
      have hgl := HS.out.l.lt
      rw [if_neg (by omega)] at hv
      obtain ⟨x, ex⟩ : ∃ x, P.c k = x := ⟨_, rfl⟩
      rw [ex] at hx HOF
      have HX := Lib.hid ex
      clear ex
      go_wp2_with (go_at_call 25; refine HOF.out.mono ?_; rintro e w' ⟨rfl, rfl⟩)
      go_roundw
      case rel =>
        refine ⟨k + 1, by omega, by go_num, HS.out.p.same (Below.heap_setCell _ _ _ _ (HS.out.l.ne HS.out.p).symm), ?_, HS.out.bel.setCell (p := ⟨g, k, none⟩) HG.out _⟩
        refine (HS.out.l.put hlt x).congr fun i _ => ?_
        simp only [put]
        by_cases e : i = k
        · subst e; rw [if_pos rfl, if_pos (by omega), HX.out]
        · rw [if_neg e]
          by_cases hi : i < k
          · rw [if_pos hi, if_pos (by omega)]
          · rw [if_neg hi, if_neg (by omega)]
      case measure => simp [intOf]; omega
    · obtain rfl : k = n := by omega
      go_wp2
      go_ret
      exact ⟨g, HG.out, rfl, HS.out.l.congr fun i hi => by rw [if_pos hi], HS.out.bel⟩

/-! ### painted -/
/-- A paint of size n, in memory made since w. -/
def PtdV (n : Nat) (w : World) (e : Ending) (w' : World) : Prop := ∃ b P, P.n = n ∧ e = .returned (.pointer (some ⟨b, 0, none⟩)) ∧ CSt w w' b P
theorem shaded_c {P : Pt} {k : Nat} (hk : k < P.n) : ((P.turn k 0 1).c k = 1 ∨ (P.turn k 0 1).c k = 2) ∨ 2 < P.c k := by
  unfold Pt.turn
  by_cases h : P.c k = 0
  · rw [if_pos ⟨(P.at_nat k).2 hk, h⟩]; exact .inl (.inl (by simp [Pt.set, put]))
  · rw [if_neg (fun x => h x.2)]; omega
theorem chk_in {P : Pt} {k : Nat} (hk : k < P.n) : P.chk k = 0 := by unfold Pt.chk; rw [if_pos ((P.at_nat k).2 hk)]
theorem turnE_in {P : Pt} {k : Nat} (hk : k < P.n) (a : Nat) : P.turnE k a = if P.c k = a then 0 else 8 := by unfold Pt.turnE; rw [if_pos ((P.at_nat k).2 hk), Int.toNat_natCast]
theorem shadeB_in {P : Pt} {k : Nat} (hk : k < P.n) : P.shadeB k = decide (P.c k = 0) := by
  unfold Pt.shadeB
  have : P.at_ (k : Int) := (P.at_nat k).2 hk
  simp [this]
theorem bleach_c {P : Pt} {k : Nat} (hk : k < P.n) : (P.bleach k).c k = 0 := by
  unfold Pt.bleach
  rw [if_pos ((P.at_nat k).2 hk)]
  simp [Pt.set, put]
set_option maxRecDepth 100000 in
set_option maxHeartbeats 4000000 in
theorem painted_lt (n : Nat) (a : Option Addr) (len cap : Nat) (s : Nat → Nat) (w : World) (h1 : 1 ≤ n) (h2 : n ≤ 256) (hle : len ≤ cap) (_hcap : cap ≤ 9223372036854775807) (hu : Nums .u8 255 w a len s) (hc : len < 200) :
    Calls Try.prog 28 #[.int .i64 n, .slice a len cap] w (PtdV n w) := by
  have HU := Lib.hid (hu.cut (m := len) (by omega))
  clear hu
  go_enter Try.func28, Try.ntmps28
  go_wp2_with fail
  refine (new_ok n _ h1 h2).mono ?_
  rintro e w1 ⟨rfl, hs1, hb1⟩
  have ST : Hid (CSt w w1 w.heap.size (white n)) := ⟨hs1, hb1, Nat.le_refl _⟩
  clear hs1 hb1
  obtain ⟨b, hb⟩ : ∃ b, w.heap.size = b := ⟨_, rfl⟩
  rw [hb] at ST ⊢
  clear hb
  go_wp2
  go_loopw [28] (fun i wr => ∃ (k : Nat) (P : Pt), k ≤ len ∧ i = .int .i64 k ∧ P.n = n ∧ Hid (CSt w wr b P)) (fun i _ => len - (intOf i).toNat)
  case atStart => exact ⟨0, _, Nat.zero_le _, rfl, rfl, ST.out⟩
  case round =>
    obtain ⟨k, P, hk, rfl, hPn, HS⟩ := hrel
    have HP := Lib.hid hPn
    clear hPn
    by_cases hlt : k < len
    · obtain ⟨B, off, rfl, hB, hcells⟩ := (HU.out.below HS.out.bel).at_ (by omega)
      have hcx := hcells k (by omega)
      have hx8 := HU.out.bd k (by omega)
      obtain ⟨j, hj⟩ : ∃ j, s k % 128 * 2 % n = j := ⟨_, rfl⟩
      have hjn : j < n := by rw [← hj]; exact Nat.mod_lt _ (by omega)
      obtain ⟨y, hy⟩ : ∃ y, s k % 128 = y := ⟨_, rfl⟩
      have hy128 : y < 128 := by rw [← hy]; exact Nat.mod_lt _ (by decide)
      rw [hy] at hj
      generalize s k = x at *
      have y2 : (x : Int) % 128 = (y : Int) := by omega
      have y1 : (x : Int).tmod 128 = (y : Int) := by rw [Int.tmod_eq_emod_of_nonneg (by omega)]; exact y2
      have e2 : ((y : Int) * 2) % (n : Int) = (j : Int) := by
        have := congrArg (fun n : Nat => (n : Int)) hj
        simpa using this
      have e1 : ((y : Int) * 2).tmod (n : Int) = (j : Int) := by rw [Int.tmod_eq_emod_of_nonneg (by omega)]; exact e2
      have HJ : Hid (j < P.n) := by have := HP.out; unfold Hid; omega
      have n1 : (P.turn j 0 1).n = n := (Pt.turn_n _ _ _ _).trans HP.out
      have n2 : ((P.turn j 0 1).turn j 1 2).n = n := (Pt.turn_n _ _ _ _).trans n1
      have n3 : (((P.turn j 0 1).turn j 1 2).bleach j).n = n := (Pt.bleach_n _ _).trans n2
      have n4 : ((((P.turn j 0 1).turn j 1 2).bleach j).turn j 0 1).n = n := (Pt.turn_n _ _ _ _).trans n3
      have E2 : (P.turn j 0 1).turnE j 1 = 0 ∨ (P.turn j 0 1).turnE j 1 = 8 := by
        rw [turnE_in (by omega)]
        by_cases h : (P.turn j 0 1).c j = 1
        · rw [if_pos h]; exact .inl rfl
        · rw [if_neg h]; exact .inr rfl
      have B3 : (((P.turn j 0 1).turn j 1 2).bleach j).shadeB j = true := by
        rw [shadeB_in (by omega), bleach_c (by omega)]; rfl
      have HSH := Lib.hid (shade_s j (P.shadeB j) 0 HS.out rfl (chk_in HJ.out))
      have HN := Lib.hid (And.intro n1 (And.intro n2 (And.intro n3 n4)))
      have HB3 := Lib.hid B3
      clear hj hy hcells n1 n2 n3 n4 B3
      generalize P.shadeB (j : Int) = B1 at *
      by_cases hbig : 128 ≤ x
      · rcases E2 with E2 | E2
        all_goals
          have HE := Lib.hid E2
          clear E2
          go_wp2_with (first
            | (go_at_call 12; refine HSH.out.mono ?_; rintro e w3 ⟨rfl, s3, _⟩; have S3 := Lib.hid s3; clear s3)
            | (go_at_call 14; refine (black_s _ _ S3.out HE.out).mono ?_; rintro e w4 ⟨rfl, s4, _⟩; have S4 := Lib.hid s4; clear s4))
          go_roundw
          case rel => exact ⟨k + 1, _, by omega, by go_num, HN.out.2.1, S4.out⟩
          case measure => simp [intOf]; omega
      · rcases E2 with E2 | E2
        · have HE := Lib.hid E2
          clear E2
          go_wp2_with (first
            | (go_at_call 12; refine (shade_s _ true 0 S5.out HB3.out (chk_in (by have := HN.out.2.2.1; omega))).mono ?_; rintro e w6 ⟨rfl, s6, _⟩; have S6 := Lib.hid s6; clear s6)
            | (go_at_call 12; refine HSH.out.mono ?_; rintro e w3 ⟨rfl, s3, _⟩; have S3 := Lib.hid s3; clear s3)
            | (go_at_call 14; refine (black_s _ _ S3.out HE.out).mono ?_; rintro e w4 ⟨rfl, s4, _⟩; have S4 := Lib.hid s4; clear s4)
            | (go_at_call 18; refine (bleach_s _ 0 S4.out (chk_in (by have := HN.out.2.1; omega))).mono ?_; rintro e w5 ⟨rfl, s5, _⟩; have S5 := Lib.hid s5; clear s5))
          go_roundw
          case rel => exact ⟨k + 1, _, by omega, by go_num, HN.out.2.2.2, S6.out⟩
          case measure => simp [intOf]; omega
        · have HE := Lib.hid E2
          clear E2
          go_wp2_with (first
            | (go_at_call 12; refine HSH.out.mono ?_; rintro e w3 ⟨rfl, s3, _⟩; have S3 := Lib.hid s3; clear s3)
            | (go_at_call 14; refine (black_s _ _ S3.out HE.out).mono ?_; rintro e w4 ⟨rfl, s4, _⟩; have S4 := Lib.hid s4; clear s4))
          go_roundw
          case rel => exact ⟨k + 1, _, by omega, by go_num, HN.out.2.1, S4.out⟩
          case measure => simp [intOf]; omega
    · obtain rfl : k = len := by omega
      go_wp2
      go_ret
      exact ⟨b, P, HP.out, rfl, HS.out⟩
set_option maxRecDepth 100000 in
set_option maxHeartbeats 4000000 in
theorem painted_eq (n : Nat) (a : Option Addr) (len cap : Nat) (s : Nat → Nat) (w : World) (h1 : 1 ≤ n) (h2 : n ≤ 256) (hle : len ≤ cap) (hcap : cap ≤ 9223372036854775807) (hu : Nums .u8 255 w a len s) (hc : len = 200) :
    Calls Try.prog 28 #[.int .i64 n, .slice a len cap] w (PtdV n w) := by
  have HU := Lib.hid (hu.cut (m := 200) (by omega))
  clear hu
  subst hc
  go_enter Try.func28, Try.ntmps28
  go_wp2_with fail
  refine (new_ok n _ h1 h2).mono ?_
  rintro e w1 ⟨rfl, hs1, hb1⟩
  have ST : Hid (CSt w w1 w.heap.size (white n)) := ⟨hs1, hb1, Nat.le_refl _⟩
  clear hs1 hb1
  obtain ⟨b, hb⟩ : ∃ b, w.heap.size = b := ⟨_, rfl⟩
  rw [hb] at ST ⊢
  clear hb
  go_wp2
  go_loopw [28] (fun i wr => ∃ (k : Nat) (P : Pt), k ≤ 200 ∧ i = .int .i64 k ∧ P.n = n ∧ Hid (CSt w wr b P)) (fun i _ => 200 - (intOf i).toNat)
  case atStart => exact ⟨0, _, Nat.zero_le _, rfl, rfl, ST.out⟩
  case round =>
    obtain ⟨k, P, hk, rfl, hPn, HS⟩ := hrel
    have HP := Lib.hid hPn
    clear hPn
    by_cases hlt : k < 200
    · obtain ⟨B, off, rfl, hB, hcells⟩ := (HU.out.below HS.out.bel).at_ (by omega)
      have hcx := hcells k (by omega)
      have hx8 := HU.out.bd k (by omega)
      obtain ⟨j, hj⟩ : ∃ j, s k % 128 * 2 % n = j := ⟨_, rfl⟩
      have hjn : j < n := by rw [← hj]; exact Nat.mod_lt _ (by omega)
      obtain ⟨y, hy⟩ : ∃ y, s k % 128 = y := ⟨_, rfl⟩
      have hy128 : y < 128 := by rw [← hy]; exact Nat.mod_lt _ (by decide)
      rw [hy] at hj
      generalize s k = x at *
      have y2 : (x : Int) % 128 = (y : Int) := by omega
      have y1 : (x : Int).tmod 128 = (y : Int) := by rw [Int.tmod_eq_emod_of_nonneg (by omega)]; exact y2
      have e2 : ((y : Int) * 2) % (n : Int) = (j : Int) := by
        have := congrArg (fun n : Nat => (n : Int)) hj
        simpa using this
      have e1 : ((y : Int) * 2).tmod (n : Int) = (j : Int) := by rw [Int.tmod_eq_emod_of_nonneg (by omega)]; exact e2
      have HJ : Hid (j < P.n) := by have := HP.out; unfold Hid; omega
      have n1 : (P.turn j 0 1).n = n := (Pt.turn_n _ _ _ _).trans HP.out
      have n2 : ((P.turn j 0 1).turn j 1 2).n = n := (Pt.turn_n _ _ _ _).trans n1
      have n3 : (((P.turn j 0 1).turn j 1 2).bleach j).n = n := (Pt.bleach_n _ _).trans n2
      have n4 : ((((P.turn j 0 1).turn j 1 2).bleach j).turn j 0 1).n = n := (Pt.turn_n _ _ _ _).trans n3
      have E2 : (P.turn j 0 1).turnE j 1 = 0 ∨ (P.turn j 0 1).turnE j 1 = 8 := by
        rw [turnE_in (by omega)]
        by_cases h : (P.turn j 0 1).c j = 1
        · rw [if_pos h]; exact .inl rfl
        · rw [if_neg h]; exact .inr rfl
      have B3 : (((P.turn j 0 1).turn j 1 2).bleach j).shadeB j = true := by
        rw [shadeB_in (by omega), bleach_c (by omega)]; rfl
      have HSH := Lib.hid (shade_s j (P.shadeB j) 0 HS.out rfl (chk_in HJ.out))
      have HN := Lib.hid (And.intro n1 (And.intro n2 (And.intro n3 n4)))
      have HB3 := Lib.hid B3
      clear hj hy hcells n1 n2 n3 n4 B3
      generalize P.shadeB (j : Int) = B1 at *
      by_cases hbig : 128 ≤ x
      · rcases E2 with E2 | E2
        all_goals
          have HE := Lib.hid E2
          clear E2
          go_wp2_with (first
            | (go_at_call 12; refine HSH.out.mono ?_; rintro e w3 ⟨rfl, s3, _⟩; have S3 := Lib.hid s3; clear s3)
            | (go_at_call 14; refine (black_s _ _ S3.out HE.out).mono ?_; rintro e w4 ⟨rfl, s4, _⟩; have S4 := Lib.hid s4; clear s4))
          go_roundw
          case rel => exact ⟨k + 1, _, by omega, by go_num, HN.out.2.1, S4.out⟩
          case measure => simp [intOf]; omega
      · rcases E2 with E2 | E2
        · have HE := Lib.hid E2
          clear E2
          go_wp2_with (first
            | (go_at_call 12; refine (shade_s _ true 0 S5.out HB3.out (chk_in (by have := HN.out.2.2.1; omega))).mono ?_; rintro e w6 ⟨rfl, s6, _⟩; have S6 := Lib.hid s6; clear s6)
            | (go_at_call 12; refine HSH.out.mono ?_; rintro e w3 ⟨rfl, s3, _⟩; have S3 := Lib.hid s3; clear s3)
            | (go_at_call 14; refine (black_s _ _ S3.out HE.out).mono ?_; rintro e w4 ⟨rfl, s4, _⟩; have S4 := Lib.hid s4; clear s4)
            | (go_at_call 18; refine (bleach_s _ 0 S4.out (chk_in (by have := HN.out.2.1; omega))).mono ?_; rintro e w5 ⟨rfl, s5, _⟩; have S5 := Lib.hid s5; clear s5))
          go_roundw
          case rel => exact ⟨k + 1, _, by omega, by go_num, HN.out.2.2.2, S6.out⟩
          case measure => simp [intOf]; omega
        · have HE := Lib.hid E2
          clear E2
          go_wp2_with (first
            | (go_at_call 12; refine HSH.out.mono ?_; rintro e w3 ⟨rfl, s3, _⟩; have S3 := Lib.hid s3; clear s3)
            | (go_at_call 14; refine (black_s _ _ S3.out HE.out).mono ?_; rintro e w4 ⟨rfl, s4, _⟩; have S4 := Lib.hid s4; clear s4))
          go_roundw
          case rel => exact ⟨k + 1, _, by omega, by go_num, HN.out.2.1, S4.out⟩
          case measure => simp [intOf]; omega
    · obtain rfl : k = 200 := by omega
      go_wp2
      go_ret
      exact ⟨b, P, HP.out, rfl, HS.out⟩
set_option maxRecDepth 100000 in
set_option maxHeartbeats 4000000 in
theorem painted_gt (n : Nat) (a : Option Addr) (len cap : Nat) (s : Nat → Nat) (w : World) (h1 : 1 ≤ n) (h2 : n ≤ 256) (hle : len ≤ cap) (hcap : cap ≤ 9223372036854775807) (hu : Nums .u8 255 w a len s) (hc : 200 < len) :
    Calls Try.prog 28 #[.int .i64 n, .slice a len cap] w (PtdV n w) := by
  have HU := Lib.hid (hu.cut (m := 200) (by omega))
  clear hu
  go_enter Try.func28, Try.ntmps28
  go_wp2_with fail
  refine (new_ok n _ h1 h2).mono ?_
  rintro e w1 ⟨rfl, hs1, hb1⟩
  have ST : Hid (CSt w w1 w.heap.size (white n)) := ⟨hs1, hb1, Nat.le_refl _⟩
  clear hs1 hb1
  obtain ⟨b, hb⟩ : ∃ b, w.heap.size = b := ⟨_, rfl⟩
  rw [hb] at ST ⊢
  clear hb
  go_wp2
  go_loopw [28] (fun i wr => ∃ (k : Nat) (P : Pt), k ≤ 200 ∧ i = .int .i64 k ∧ P.n = n ∧ Hid (CSt w wr b P)) (fun i _ => 200 - (intOf i).toNat)
  case atStart => exact ⟨0, _, Nat.zero_le _, rfl, rfl, ST.out⟩
  case round =>
    obtain ⟨k, P, hk, rfl, hPn, HS⟩ := hrel
    have HP := Lib.hid hPn
    clear hPn
    by_cases hlt : k < 200
    · obtain ⟨B, off, rfl, hB, hcells⟩ := (HU.out.below HS.out.bel).at_ (by omega)
      have hcx := hcells k (by omega)
      have hx8 := HU.out.bd k (by omega)
      obtain ⟨j, hj⟩ : ∃ j, s k % 128 * 2 % n = j := ⟨_, rfl⟩
      have hjn : j < n := by rw [← hj]; exact Nat.mod_lt _ (by omega)
      obtain ⟨y, hy⟩ : ∃ y, s k % 128 = y := ⟨_, rfl⟩
      have hy128 : y < 128 := by rw [← hy]; exact Nat.mod_lt _ (by decide)
      rw [hy] at hj
      generalize s k = x at *
      have y2 : (x : Int) % 128 = (y : Int) := by omega
      have y1 : (x : Int).tmod 128 = (y : Int) := by rw [Int.tmod_eq_emod_of_nonneg (by omega)]; exact y2
      have e2 : ((y : Int) * 2) % (n : Int) = (j : Int) := by
        have := congrArg (fun n : Nat => (n : Int)) hj
        simpa using this
      have e1 : ((y : Int) * 2).tmod (n : Int) = (j : Int) := by rw [Int.tmod_eq_emod_of_nonneg (by omega)]; exact e2
      have HJ : Hid (j < P.n) := by have := HP.out; unfold Hid; omega
      have n1 : (P.turn j 0 1).n = n := (Pt.turn_n _ _ _ _).trans HP.out
      have n2 : ((P.turn j 0 1).turn j 1 2).n = n := (Pt.turn_n _ _ _ _).trans n1
      have n3 : (((P.turn j 0 1).turn j 1 2).bleach j).n = n := (Pt.bleach_n _ _).trans n2
      have n4 : ((((P.turn j 0 1).turn j 1 2).bleach j).turn j 0 1).n = n := (Pt.turn_n _ _ _ _).trans n3
      have E2 : (P.turn j 0 1).turnE j 1 = 0 ∨ (P.turn j 0 1).turnE j 1 = 8 := by
        rw [turnE_in (by omega)]
        by_cases h : (P.turn j 0 1).c j = 1
        · rw [if_pos h]; exact .inl rfl
        · rw [if_neg h]; exact .inr rfl
      have B3 : (((P.turn j 0 1).turn j 1 2).bleach j).shadeB j = true := by
        rw [shadeB_in (by omega), bleach_c (by omega)]; rfl
      have HSH := Lib.hid (shade_s j (P.shadeB j) 0 HS.out rfl (chk_in HJ.out))
      have HN := Lib.hid (And.intro n1 (And.intro n2 (And.intro n3 n4)))
      have HB3 := Lib.hid B3
      clear hj hy hcells n1 n2 n3 n4 B3
      generalize P.shadeB (j : Int) = B1 at *
      by_cases hbig : 128 ≤ x
      · rcases E2 with E2 | E2
        all_goals
          have HE := Lib.hid E2
          clear E2
          go_wp2_with (first
            | (go_at_call 12; refine HSH.out.mono ?_; rintro e w3 ⟨rfl, s3, _⟩; have S3 := Lib.hid s3; clear s3)
            | (go_at_call 14; refine (black_s _ _ S3.out HE.out).mono ?_; rintro e w4 ⟨rfl, s4, _⟩; have S4 := Lib.hid s4; clear s4))
          go_roundw
          case rel => exact ⟨k + 1, _, by omega, by go_num, HN.out.2.1, S4.out⟩
          case measure => simp [intOf]; omega
      · rcases E2 with E2 | E2
        · have HE := Lib.hid E2
          clear E2
          go_wp2_with (first
            | (go_at_call 12; refine (shade_s _ true 0 S5.out HB3.out (chk_in (by have := HN.out.2.2.1; omega))).mono ?_; rintro e w6 ⟨rfl, s6, _⟩; have S6 := Lib.hid s6; clear s6)
            | (go_at_call 12; refine HSH.out.mono ?_; rintro e w3 ⟨rfl, s3, _⟩; have S3 := Lib.hid s3; clear s3)
            | (go_at_call 14; refine (black_s _ _ S3.out HE.out).mono ?_; rintro e w4 ⟨rfl, s4, _⟩; have S4 := Lib.hid s4; clear s4)
            | (go_at_call 18; refine (bleach_s _ 0 S4.out (chk_in (by have := HN.out.2.1; omega))).mono ?_; rintro e w5 ⟨rfl, s5, _⟩; have S5 := Lib.hid s5; clear s5))
          go_roundw
          case rel => exact ⟨k + 1, _, by omega, by go_num, HN.out.2.2.2, S6.out⟩
          case measure => simp [intOf]; omega
        · have HE := Lib.hid E2
          clear E2
          go_wp2_with (first
            | (go_at_call 12; refine HSH.out.mono ?_; rintro e w3 ⟨rfl, s3, _⟩; have S3 := Lib.hid s3; clear s3)
            | (go_at_call 14; refine (black_s _ _ S3.out HE.out).mono ?_; rintro e w4 ⟨rfl, s4, _⟩; have S4 := Lib.hid s4; clear s4))
          go_roundw
          case rel => exact ⟨k + 1, _, by omega, by go_num, HN.out.2.1, S4.out⟩
          case measure => simp [intOf]; omega
    · obtain rfl : k = 200 := by omega
      go_wp2
      go_ret
      exact ⟨b, P, HP.out, rfl, HS.out⟩
theorem painted_ok (n : Nat) (a : Option Addr) (len cap : Nat) (s : Nat → Nat) (w : World) (h1 : 1 ≤ n) (h2 : n ≤ 256) (hle : len ≤ cap) (hcap : cap ≤ 9223372036854775807) (hu : Nums .u8 255 w a len s) :
    Calls Try.prog 28 #[.int .i64 n, .slice a len cap] w (PtdV n w) := by
  rcases Nat.lt_trichotomy len 200 with h | h | h
  · exact painted_lt n a len cap s w h1 h2 hle hcap hu h
  · exact painted_eq n a len cap s w h1 h2 hle hcap hu h
  · exact painted_gt n a len cap s w h1 h2 hle hcap hu h
end Go.Proofs.Ythcpmcdgojgdlaa
