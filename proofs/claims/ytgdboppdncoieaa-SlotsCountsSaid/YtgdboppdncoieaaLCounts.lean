/- The walk of the statement SlotsCounts: it returns true for all sizes, generations and turns. -/
import Derived.Test.YtgdboppdncoieaaLNever
import Derived.Deep.RegionHeld3
import Derived.OwnWalk
import Derived.StillTailTactics
import Derived.Deep.RegionWith
namespace Go.Proofs.Ytgdboppdncoieaa
open Go.RowKit

theorem info_u32 : (Try.prog.info? 22).map (fun i => (i.zero, i.size, i.bytes)) = some (some (.int .u32 0), 1, 4) := by kernel_rfl
/-- The cells of a new array of n numbers. -/
def made_ (z : Value) (n : Nat) : Array Value := madeCells #[z] n
theorem made_at (z : Value) {n i : Nat} (h : i < n) : (made_ z n)[i]? = some z := by
  have := toList_madeCells_one z n
  unfold made_
  rw [← Array.getElem?_toList, this]; simp [h]
theorem make_u32 (m : Nat) (hm : m ≤ 256) (W : World) : (Instr.makeSlice 60 (.int .i64 m) (.int .i64 m)).run Try.prog W = .ok (.slice (some ⟨W.heap.size, 0, none⟩) m m) (W.alloc (.cells (made_ (.int .u32 0) m) 22)) := by
  obtain ⟨i0, hi, hz0, hz1, hz2⟩ := info_parts info_u32
  have := run_make (P := Try.prog) W 60 22 i0 _ Try.underlying60 hi hz0 .i64 .i64 m m (by omega) (by omega) (by rw [hz2]; omega) (by omega)
  rw [this, hz1]
  simp [made_, Value.cells]
theorem turn_gone {T : Tb} (c : Bool) (q : Nat) : T.gone.length ≤ (T.turn c q).gone.length := by
  unfold Tb.turn Tb.take
  split
  · split
    · rename_i i hi
      obtain ⟨h1, h2⟩ := Tb.held_at hi
      unfold Tb.gave
      split
      · exact gone_grows (T := T) h1 (by omega)
      · exact gone_grows (T := T) h1 (by omega)
    · exact Nat.le_refl _
  · split
    · exact Nat.le_refl _
    · rename_i i r hf
      obtain ⟨h1, h2⟩ := Tb.free_lt hf
      exact gone_grows (T := T) h1 (by omega)
theorem held_sorted {T : Tb} {k x y : Nat} (h1 : T.held[k]? = some x) (h2 : T.held[k + 1]? = some y) : x < y := by
  obtain ⟨l1, e1⟩ := List.getElem?_eq_some_iff.1 h1
  obtain ⟨l2, e2⟩ := List.getElem?_eq_some_iff.1 h2
  have := List.pairwise_iff_getElem.1 (sel_sorted T.s 1 T.n) k (k + 1) l1 l2 (Nat.lt_succ_self k)
  have h : T.held[k] < T.held[k + 1] := this
  omega

/-- Block h holds n generations, none above the table's. -/
def U32 (w : World) (h n : Nat) (g : Nat → Nat) : Prop := ∃ cur, Bk w h 22 cur ∧ ∀ i, i < n → ∃ x : Nat, cur[i]? = some (.int .u32 x) ∧ x ≤ g i
theorem U32.below {w w' : World} {h n : Nat} {g : Nat → Nat} (a : U32 w h n g) (k : Below w.heap.size w w') : U32 w' h n g := by
  obtain ⟨cur, h1, h2⟩ := a; exact ⟨cur, h1.below k, h2⟩
theorem U32.kept {w w' : World} {h n b : Nat} {g : Nat → Nat} {T : Tb} (a : U32 w h n g) (k : Kept (· = b) w w') (ht : TabW w b T) : U32 w' h n g := by
  obtain ⟨cur, h1, h2⟩ := a
  have hn : h ≠ b := by rintro rfl; exact absurd (h1.uniq ht.bk).1 (by decide)
  exact ⟨cur, h1.kept k hn, h2⟩
theorem U32.mono {w : World} {h n : Nat} {g g' : Nat → Nat} (a : U32 w h n g) (k : ∀ i, g i ≤ g' i) : U32 w h n g' := by
  obtain ⟨cur, h1, h2⟩ := a
  exact ⟨cur, h1, fun i hi => by obtain ⟨x, h3, h4⟩ := h2 i hi; exact ⟨x, h3, Nat.le_trans h4 (k i)⟩⟩
theorem U32.put {w : World} {h n : Nat} {g : Nat → Nat} (a : U32 w h n g) (j : Nat) : U32 (w.setCell ⟨h, j, none⟩ (.int .u32 (g j))) h n g := by
  obtain ⟨cur, h1, h2⟩ := a
  refine ⟨_, h1.put j _, fun i hi => ?_⟩
  obtain ⟨x, h3, h4⟩ := h2 i hi
  rw [Array.getElem?_setIfInBounds]
  by_cases e : j = i
  · subst e
    rw [if_pos rfl, if_pos (Array.getElem?_eq_some_iff.1 h3).1]
    exact ⟨g j, rfl, Nat.le_refl _⟩
  · rw [if_neg e]; exact ⟨x, h3, h4⟩

structure CtSt (w0 w : World) (b h n : Nat) (T : Tb) : Prop where
  t : TabW w b T
  u : U32 w h n T.g
  bel : Below w0.heap.size w0 w
  lb : w0.heap.size ≤ b
  lh : w0.heap.size ≤ h
theorem CtSt.quiet {w0 w w' : World} {b h n : Nat} {T : Tb} (a : CtSt w0 w b h n T) (k : Below w.heap.size w w') : CtSt w0 w' b h n T := ⟨a.t.below k, a.u.below k, bel2 a.bel k, a.lb, a.lh⟩
theorem CtSt.step {w0 w w' : World} {b h n : Nat} {T U : Tb} (a : CtSt w0 w b h n T) (k : Kept (· = b) w w') (ht : TabW w' b U) (hg : ∀ i, T.g i ≤ U.g i) : CtSt w0 w' b h n U :=
  ⟨ht, (a.u.kept k a.t).mono hg, kept_bel a.bel k a.lb, a.lb, a.lh⟩
theorem CtSt.put {w0 w : World} {b h n : Nat} {T : Tb} (a : CtSt w0 w b h n T) (j : Nat) : CtSt w0 (w.setCell ⟨h, j, none⟩ (.int .u32 (T.g j))) b h n T := by
  have hn : b ≠ h := by
    obtain ⟨cur, h1, _⟩ := a.u
    rintro rfl; exact absurd (h1.uniq a.t.bk).1 (by decide)
  exact ⟨a.t.same (Below.heap_setCell _ _ _ _ hn), a.u.put j, a.bel.setCell (p := ⟨h, j, none⟩) a.lh _, a.lb, a.lh⟩

theorem Below.draws {w W : World} (e2 : W.os = w.os) (e3 : W.tape = w.tape) (e4 : W.output = w.output) (e1 : W.heap = w.heap) (B : Nat) : Below B w W := ⟨e2, e3, e4, by rw [e1]; exact Nat.le_refl _, fun k _ => by rw [e1]⟩
/-- Check, at a world that has only drawn since. -/
theorem ct_check {w0 W0 W : World} {b h n g n2 c2 x y : Nat} {T : Tb} {N : List (Nat × Nat)} (hE : T.chk x y = 0) (a : Hid (CtSt w0 W0 b h n T)) (r : Hid (Sr W0 (.slice (some ⟨g, 0, none⟩) n2 c2) N)) (e1 : W.heap = W0.heap) (e2 : W.os = W0.os) (e3 : W.tape = W0.tape) (e4 : W.output = W0.output) :
    Calls Try.prog 16 #[.pointer (some ⟨b, 0, none⟩), .agg #[.int .i64 x, .int .u32 y]] W fun e w' => e = .returned (.int .i64 0) ∧ Hid (CtSt w0 w' b h n T) ∧ Hid (Sr w' (.slice (some ⟨g, 0, none⟩) n2 c2) N) := by
  have hb := Below.draws e2 e3 e4 e1 W0.heap.size
  refine (check_s b T x y 0 W (a.out.quiet hb).t hE).mono ?_
  rintro e w' ⟨h1, h2⟩
  exact ⟨h1, (a.out.quiet hb).quiet h2, (r.out.below hb).below h2⟩

theorem gen_in {T : Tb} {i : Nat} (hi : i < T.n) : T.gen (i : Int) = T.g i ∧ T.genE (i : Int) = 0 := by
  have e1 : ¬ ((i : Int) < 0 ∨ (T.n : Int) ≤ (i : Int)) := by omega
  unfold Tb.gen Tb.genE
  rw [if_neg e1, if_neg e1, Int.toNat_natCast]
  exact ⟨rfl, rfl⟩

theorem Sr.setu {w : World} {v val : Value} {l : List (Nat × Nat)} {h p : Nat} {cur : Array Value} (a : Sr w v l) (hu : Bk w h 22 cur) : Sr (w.setCell ⟨h, p, none⟩ val) v l := by
  obtain ⟨a, c, e, k⟩ := a
  refine ⟨a, c, e, fun h0 => ?_⟩
  obtain ⟨g, cur2, e2, hg, hc⟩ := k h0
  have hn : g ≠ h := by rintro rfl; exact absurd (hg.uniq hu).1 (by decide)
  exact ⟨g, cur2, e2, hg.kept ((Kept.refl (· = h) w).put1 _ _) hn, hc⟩
set_option maxRecDepth 100000 in
set_option maxHeartbeats 16000000 in
theorem counts_core (size below : Int) (a : Option Addr) (len cap : Nat) (c : Nat → Bool) (q : Nat → Nat) (w : World) (h0 : 0 ≤ size) (h1 : size ≤ 255) (h2 : 0 ≤ below) (h3 : below ≤ 255) (hl : len ≤ 150) (hu : Turns w a len c q) :
    Calls Try.prog 6 #[.int .u8 size, .int .u8 below, .slice a len cap] w fun e w' => e = .returned (.bool true) ∧ Below w.heap.size w w' := by
  have HM := Lib.hid (made_ok size below none 0 0 c q w h0 h1 h2 h3 (by omega) ⟨fun h => absurd h (Nat.lt_irrefl 0), fun _ h => absurd h (Nat.not_lt_zero _)⟩)
  have HU := Lib.hid hu
  obtain ⟨n, hn⟩ : ∃ n : Nat, 1 + size % 20 = (n : Int) := ⟨(1 + size % 20).toNat, by omega⟩
  have hn1 : 1 + size.tmod 20 = (n : Int) := by rw [Int.tmod_eq_emod_of_nonneg h0]; exact hn
  have hnl : 1 ≤ n := by omega
  have hnh : n ≤ 256 := by omega
  have HTN : Hid ((mk0 size below).n = n) := by
    show (1 + size % 20).toNat = n
    omega
  have hmk := make_u32 n hnh
  clear hu
  go_enter Try.func6, Try.ntmps6
  go_wp2_with fail
  refine HM.out.mono ?_
  rintro e w1 ⟨b, a1, c1, rfl, hb, ht, _, hbel⟩
  have ht' : TabW w1 b (mk0 size below) := ht
  have ST : Hid (CtSt w (w1.alloc (.cells (made_ (.int .u32 0) n) 22)) b w1.heap.size n (runT (mk0 size below) c q 0)) :=
    ⟨ht'.below ((Below.refl _ w1).alloc (Nat.le_refl _) _), ⟨_, Bk.new w1 _ _, fun i hi => ⟨0, made_at _ hi, Nat.zero_le _⟩⟩, bel2 hbel ((Below.refl _ w1).alloc (Nat.le_refl _) _), hb, hbel.size⟩
  clear HM hb ht ht' hbel
  go_wp2
  clear hmk hn hn1
  generalize w1.heap.size = h at *
  generalize w1.alloc (.cells (made_ (.int .u32 0) n) 22) = w2 at *
  go_loopw [11, 12] (fun gx ix wr => ∃ k gl : Nat, k ≤ len ∧ ix = .int .i64 k ∧ gx = .int .i64 gl ∧ Hid (gl ≤ (runT (mk0 size below) c q k).gone.length) ∧ Hid (CtSt w wr b h n (runT (mk0 size below) c q k))) (fun _ ix _ => len + 1 - (intOf ix).toNat)
  case atStart => exact ⟨0, 0, Nat.zero_le _, rfl, rfl, Nat.zero_le _, ST.out⟩
  case round =>
    clear ST
    obtain ⟨k, gl, hk, rfl, rfl, HG, HS⟩ := hrel
    have hTn : (runT (mk0 size below) c q k).n = n := by rw [runT_n]; exact HTN.out
    have HTn := Lib.hid hTn
    have HNX : Hid (runT (mk0 size below) c q (k + 1) = (runT (mk0 size below) c q k).turn (c k) (q k)) := rfl
    obtain ⟨T', hT'⟩ : ∃ T', runT (mk0 size below) c q (k + 1) = T' := ⟨_, rfl⟩
    rw [hT'] at HNX
    have HT' := Lib.hid hT'
    clear hT' hTn
    generalize runT (mk0 size below) c q k = T at *
    have hnl2 := Tb.now_len T
    have hsa := sel_all HS.out.t.ok.st T.n
    rw [HTn.out] at hsa
    have hhl := T.held_len HS.out.t.ok
    obtain ⟨x1, e1⟩ : ∃ x, T.held.length = x := ⟨_, rfl⟩
    obtain ⟨x2, e2⟩ : ∃ x, T.free.length = x := ⟨_, rfl⟩
    obtain ⟨x3, e3⟩ : ∃ x, T.gone.length = x := ⟨_, rfl⟩
    have hsum : x1 + x2 + x3 = n := by
      rw [← e1, ← e2, ← e3, ← hsa]
      unfold Tb.held Tb.free Tb.gone
      rw [HTn.out]
    have hgl : gl ≤ x3 := by rw [← e3]; exact HG.out
    rw [e1] at hnl2 hhl
    have HE := Lib.hid (And.intro hnl2 (And.intro e1 (And.intro e2 e3)))
    clear hnl2 hsa e1 e2 e3 HG
    go_wp2_with fail
    refine (taken_s b T _ HS.out.t).mono ?_
    rintro e w3 ⟨a3, c3, rfl, hs3, hb3⟩
    rw [HE.out.1]
    have S3 := Lib.hid (HS.out.quiet hb3)
    have R3 := Lib.hid hs3
    rw [HE.out.1] at R3
    clear hs3 hb3 HS
    go_wp2_with fail
    refine (len_ok b T _ S3.out.t).mono ?_
    rw [HE.out.2.1]
    rintro e w4 ⟨rfl, hb4⟩
    have S4 := Lib.hid (S3.out.quiet hb4)
    have R4 := Lib.hid (R3.out.below hb4)
    clear hb4 S3 R3
    go_wp2_with fail
    refine (free_ok b T _ S4.out.t).mono ?_
    rw [HE.out.2.2.1]
    rintro e w5 ⟨rfl, hb5⟩
    have S5 := Lib.hid (S4.out.quiet hb5)
    have R5 := Lib.hid (R4.out.below hb5)
    clear hb5 S4 R4
    go_wp2_with fail
    refine (retired_ok b T _ S5.out.t).mono ?_
    rw [HE.out.2.2.2]
    rintro e w6 ⟨rfl, hb6⟩
    have S6 := Lib.hid (S5.out.quiet hb6)
    have R6 := Lib.hid (R5.out.below hb6)
    have hd1 : ((x1 : Int) + (x2 : Int) + (x3 : Int) != (n : Int)) = false := by simp; omega
    clear hb6 S5 R5
    go_wp2_with fail
    clear hd1
    refine (len_ok b T _ S6.out.t).mono ?_
    rw [HE.out.2.1]
    rintro e w7 ⟨rfl, hb7⟩
    have S7 := Lib.hid (S6.out.quiet hb7)
    have R7 := Lib.hid (R6.out.below hb7)
    have hd2 : ((x1 : Int) != (x1 : Int)) = false := by simp
    clear hb7 S6 R6
    go_wp2_with fail
    clear hd2
    refine (retired_ok b T _ S7.out.t).mono ?_
    rw [HE.out.2.2.2]
    rintro e w8 ⟨rfl, hb8⟩
    have S8 := Lib.hid (S7.out.quiet hb8)
    have R8 := Lib.hid (R7.out.below hb8)
    clear hb8 S7 R7
    go_wp2_with fail
    refine (retired_ok b T _ S8.out.t).mono ?_
    rw [HE.out.2.2.2]
    rintro e w9 ⟨rfl, hb9⟩
    have S9 := Lib.hid (S8.out.quiet hb9)
    have R9 := Lib.hid (R8.out.below hb9)
    clear hb9 S8 R8
    go_wp2
    go_loopw [14] (fun jx wq => ∃ j : Nat, j ≤ x1 ∧ jx = .int .i64 j ∧ Hid (CtSt w wq b h n T) ∧ Hid (Sr wq (.slice a3 x1 c3) T.now)) (fun jx _ => x1 - (intOf jx).toNat)
    case atStart => exact ⟨0, Nat.zero_le _, rfl, S9.out, R9.out⟩
    case round =>
      clear S9 R9
      obtain ⟨j, hj, rfl, HS, HR⟩ := hrel
      by_cases hlj : j < x1
      · obtain ⟨x, hx⟩ : ∃ x, T.held[j]? = some x := ⟨_, List.getElem?_eq_getElem (by have := HE.out.2.1; omega)⟩
        obtain ⟨hin, his⟩ := Tb.held_at hx
        obtain ⟨g2, rfl, hg2, hd0, hd1⟩ := HR.out.at (now_at' hx)
        simp only [] at hd0 hd1
        have hck := Tb.chk_held hin his
        obtain ⟨y, hy⟩ : ∃ y, T.g x = y := ⟨_, rfl⟩
        rw [hy] at hck hd1
        have HCK := Lib.hid hck
        clear hck hy hin his
        by_cases hj0 : 0 < j
        · obtain ⟨p, hp⟩ : ∃ p, j = p + 1 := ⟨j - 1, by omega⟩
          obtain ⟨z, hz⟩ : ∃ z, T.held[p]? = some z := ⟨_, List.getElem?_eq_getElem (by have := HE.out.2.1; omega)⟩
          have hxz : z < x := held_sorted hz (by rw [← hp]; exact hx)
          obtain ⟨_, he0, _⟩ := HR.out.cells (now_at' hz)
          simp only [] at he0
          have HPX := Lib.hid hp
          have hle : decide ((x : Int) ≤ (z : Int)) = false := by simp; omega
          have hgt : decide ((0 : Int) < (j : Int)) = true := by simp; omega
          have hw1 : IntKind.i64.wrap ((j : Int) - 1) = (p : Int) := by rw [IntWalk.i64_in _ (by omega)]; omega
          have hw2 : ((j : Int) - 1) = (p : Int) := by omega
          have hb1 : (0 : Int) ≤ (j : Int) := by omega
          have hb2 : (j : Int) < (x1 : Int) := by omega
          have hb3 : (0 : Int) ≤ (p : Int) := by omega
          have hb4 : (p : Int) < (x1 : Int) := by omega
          have hw3 : IntKind.i64.wrap (p : Int) = (p : Int) := IntWalk.i64_in _ (by omega)
          clear hx hz hp
          go_wp2
          go_still_tail 22, (by kernel_rfl)
          go_wp2_with fail
          refine (ct_check HCK.out HS HR (by rfl) (by rfl) (by rfl) (by rfl)).mono ?_
          rintro e w10 ⟨rfl, HS10, HR10⟩
          clear hw1 hw2 hw3 hb3 hb4 hle hgt hd0 hd1 he0 HS HR
          go_wp2
          go_roundw
          case rel => exact ⟨j + 1, by omega, by go_num, HS10.out, HR10.out⟩
          case measure => simp [intOf]; omega
        · have hb1 : (0 : Int) ≤ (j : Int) := by omega
          have hb2 : (j : Int) < (x1 : Int) := by omega
          have hgt : decide ((0 : Int) < (j : Int)) = false := by simp; omega
          have HJ0 := Lib.hid hj0
          clear hx hj0
          go_wp2
          go_still_tail 22, (by kernel_rfl)
          repeat (refine wpStill_step (fun K hK => ?_); go_simp; (try rw [if_neg HJ0.out]); refine hK _ ?_; clear hK K)
          try refine wpStill_nil ?_
          have hgn : decide (0 < j) = false := decide_eq_false HJ0.out
          go_wp2_with fail
          refine (ct_check HCK.out HS HR (by rfl) (by rfl) (by rfl) (by rfl)).mono ?_
          rintro e w10 ⟨rfl, HS10, HR10⟩
          clear hd0 hd1 HS HR
          go_wp2
          go_roundw
          case rel => exact ⟨j + 1, by omega, by go_num, HS10.out, HR10.out⟩
          case measure => simp [intOf]; omega
      · obtain rfl : x1 = j := by omega
        clear hlj hj
        go_wp2
        go_loopw [15] (fun jx wq => ∃ j : Nat, j ≤ n ∧ jx = .int .i64 j ∧ Hid (CtSt w wq b h n T) ∧ Hid (Sr wq (.slice a3 x1 c3) T.now)) (fun jx _ => n - (intOf jx).toNat)
        case atStart => exact ⟨0, Nat.zero_le _, rfl, HS.out, HR.out⟩
        case round =>
          clear HS HR
          obtain ⟨j, hj, rfl, HS, HR⟩ := hrel
          by_cases hlj : j < n
          · have HGE := Lib.hid (gen_in (T := T) (i := j) (by rw [HTn.out]; exact hlj))
            have hg1 := HS.out.t.ok.g1 j (by rw [HTn.out]; exact hlj)
            have hg2 := HS.out.t.ok.gm j
            obtain ⟨cur, hu1, hu2⟩ := HS.out.u
            obtain ⟨x, hx, hxy⟩ := hu2 j hlj
            have hc : wr.cell? ⟨h, j, none⟩ = some (.int .u32 x) := by rw [hu1.cell]; exact hx
            have hl := hu1.lt
            have hfz := hu1.frozen j
            have HS2 := Lib.hid (HS.out.put j)
            have HR2 : Hid (Sr (wr.setCell ⟨h, j, none⟩ (.int .u32 (T.g j))) (.slice a3 x1 c3) T.now) := HR.out.setu hu1
            have hgt : ¬ T.g j < x := by omega
            go_wp2_with fail
            refine (gen_any b T j _ HS.out.t).mono ?_
            rw [HGE.out.1, HGE.out.2]
            rintro e w10 ⟨rfl, rfl⟩
            generalize T.g j = y at *
            go_wp2_with fail
            refine (check_ok y _ (by omega) (by omega)).mono ?_
            rintro e w10 ⟨rfl, rfl⟩
            clear HS HR
            go_wp2
            go_roundw
            case rel => exact ⟨j + 1, by omega, by go_num, HS2.out, HR2.out⟩
            case measure => simp [intOf]; omega
          · obtain rfl : n = j := by omega
            clear hlj hj
            by_cases hkl : k < len
            · obtain ⟨B, off, rfl, hB, hcells⟩ := (HU.out.below HS.out.bel).at_ (by omega)
              obtain ⟨hc0, hc1⟩ := hcells k hkl
              have hkk : ((k : Int) == (len : Int)) = false := beq_eq_false_iff_ne.2 (by omega)
              have hq := HU.out.lt k hkl
              have HGR := Lib.hid (turn_gone (T := T) (c k) (q k))
              have HGG := Lib.hid (fun i => turn_grows T (c k) (q k) i)
              clear hcells
              generalize q k = x at *
              generalize c k = gv at *
              cases gv
              · have h1 := Lib.hid (HNX.out.trans (turn_no T x))
                go_wp2_with fail
                clear hc0 hc1 hkk
                refine (take_ok b T _ HS.out.t).mono ?_
                rintro e w12 ⟨rfl, ht, hk3⟩
                have HS3 : Hid (CtSt w w12 b h n T') := HS.out.step hk3 (by rw [h1.out]; exact ht) (by rw [HNX.out]; exact HGG.out)
                clear ht hk3
                go_wp2
                go_roundw
                case rel => exact ⟨k + 1, x3, by omega, by go_num, rfl, by rw [HT'.out, HNX.out, ← HE.out.2.2.2]; exact HGR.out, by rw [HT'.out]; exact HS3.out⟩
                case measure => simp [intOf]; omega
              · by_cases hm0 : x1 = 0
                · subst hm0
                  have h1 := Lib.hid (HNX.out.trans (turn_none x (List.eq_nil_of_length_eq_zero HE.out.2.1)))
                  clear hc1
                  go_wp2
                  go_roundw
                  case rel => exact ⟨k + 1, x3, by omega, by go_num, rfl, by rw [HT'.out, HNX.out, ← HE.out.2.2.2]; exact HGR.out, by rw [HT'.out, h1.out]; exact HS.out⟩
                  case measure => simp [intOf]; omega
                · obtain ⟨p, hp⟩ : ∃ p, x % x1 = p := ⟨_, rfl⟩
                  have hpm : p < x1 := by rw [← hp]; exact Nat.mod_lt _ (by omega)
                  obtain ⟨i, hij⟩ : ∃ i, T.held[p]? = some i := ⟨_, List.getElem?_eq_getElem (by have := HE.out.2.1; omega)⟩
                  have h1 := Lib.hid (HNX.out.trans (turn_some x HE.out.2.1 hp hij))
                  obtain ⟨hin, his⟩ := Tb.held_at hij
                  obtain ⟨g3, rfl, hg3, hx0, hx1⟩ := HR.out.at (now_at' hij)
                  simp only [] at hx0 hx1
                  have HCH := Lib.hid (Tb.chk_held hin his)
                  have HGV := Lib.hid (Tb.given_held hin his)
                  have hm1 : 0 < x1 := by omega
                  have e2 : (x : Int) % (x1 : Int) = (p : Int) := by
                    have := congrArg (fun n : Nat => (n : Int)) hp
                    simpa using this
                  have e1 : (x : Int).tmod (x1 : Int) = (p : Int) := by rw [Int.tmod_eq_emod_of_nonneg (by omega)]; exact e2
                  obtain ⟨y, hy⟩ : ∃ y, T.g i = y := ⟨_, rfl⟩
                  rw [hy] at hx1 HCH HGV
                  clear hp hij his hy
                  go_wp2_with fail
                  clear e1 e2 hx0 hx1 hc0 hc1
                  refine (give_s b T i y 0 _ HS.out.t HCH.out).mono ?_
                  rintro e w13 ⟨rfl, ht, hk4⟩
                  rw [HGV.out] at ht
                  have HS4 : Hid (CtSt w w13 b h n T') := HS.out.step hk4 (by rw [h1.out]; exact ht) (by rw [HNX.out]; exact HGG.out)
                  clear ht hk4
                  go_wp2
                  go_roundw
                  case rel => exact ⟨k + 1, x3, by omega, by go_num, rfl, by rw [HT'.out, HNX.out, ← HE.out.2.2.2]; exact HGR.out, by rw [HT'.out]; exact HS4.out⟩
                  case measure => simp [intOf]; omega
            · obtain rfl : len = k := by omega
              have hkk : ((len : Int) == (len : Int)) = true := by simp
              clear hkl
              go_wp2_with fail
              refine (works_ok _).mono ?_
              rintro e w16 ⟨rfl, hb16⟩
              go_wp2
              go_ret
              exact ⟨rfl, bel2 HS.out.bel hb16⟩
set_option maxRecDepth 100000 in
theorem counts_long (size below : Int) (a : Option Addr) (len cap : Nat) (w : World) (hl : 150 < len) :
    Calls Try.prog 6 #[.int .u8 size, .int .u8 below, .slice a len cap] w fun e w' => e = .returned (.bool true) ∧ Below w.heap.size w w' := by
  go_enter Try.func6, Try.ntmps6
  go_wp2_with fail
  refine (works_ok _).mono ?_
  rintro e w3 ⟨rfl, hb3⟩
  go_wp2
  go_ret
  exact ⟨rfl, hb3⟩
theorem counts_walk (size below : Int) (a : Option Addr) (len cap : Nat) (c : Nat → Bool) (q : Nat → Nat) (w : World) (h0 : 0 ≤ size) (h1 : size ≤ 255) (h2 : 0 ≤ below) (h3 : below ≤ 255) (hu : Turns w a len c q) :
    Calls Try.prog 6 #[.int .u8 size, .int .u8 below, .slice a len cap] w fun e w' => e = .returned (.bool true) ∧ Below w.heap.size w w' := by
  by_cases hl : len ≤ 150
  · exact counts_core size below a len cap c q w h0 h1 h2 h3 hl hu
  · exact counts_long size below a len cap w (by omega)
end Go.Proofs.Ytgdboppdncoieaa
