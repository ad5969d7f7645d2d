/- The contracts of the document's New, Take, Give, Taken, Copy. -/
import Derived.Test.YtfemfgpciogbeaaZr
import Derived.StillTailTactics
import Derived.RegionTactic
namespace Go.Proofs.Ytfemfgpciogbeaa
open Go.RowKit

theorem rown_kept {w w' : World} {base n s b : Nat} {e : TypeId} {v : Value} {xs : List Value} (h : w.ownsRow base e s v n xs) (k : Kept (· = b) w w') (hb : b < base) : w'.ownsRow base e s v n xs := by
  refine ⟨h.1, ?_⟩
  rcases h.2 with h | ⟨g, cap, cur, h1, h2, h3, h4⟩
  · exact .inl h
  · exact .inr ⟨g, cap, cur, h1, h2, (Bk.kept (show Bk w g e cur from h3) k (by omega)), h4⟩
/-- States with their generations, in a block. -/
def duos (T : Tb) (k : Nat) : List (Nat × Nat) := (List.range k).map fun i => (T.s i, T.g i)
theorem duos_snoc (T : Tb) (k : Nat) : duos T (k + 1) = duos T k ++ [(T.s k, T.g k)] := by simp [duos, List.range_succ]
theorem duos_len (T : Tb) (k : Nat) : (duos T k).length = k := by simp [duos]
theorem duos_at (T : Tb) {k i : Nat} (h : i < k) : (duos T k)[i]? = some (T.s i, T.g i) := by simp [duos, h]
theorem info_slot : (Try.prog.info? 110).map (fun i => (i.zero, i.size, i.bytes)) = some (some (.agg #[.int .i64 0, .int .u32 0]), 2, 16) := by kernel_rfl
/-- A row that the call owns, and the struct that names it, are the document's table. -/
theorem refW_of_own {w : World} {base c n : Nat} {v : Value} {T : Tb} (ho : T.Ok) (hn : T.n = n) (hc : Bk w c 108 #[v]) (h : w.ownsRow base 110 2 v n (pairs (duos T n))) : ∃ d, base ≤ d ∧ RefW w c d T := by
  have hlo := ho.lo
  rcases h.2 with ⟨rfl, h0⟩ | ⟨g, cap, cur, rfl, h1, h2, h3, h4, h5, h6⟩
  · omega
  · refine ⟨g, h1, ho, cap, cur, by rw [hn]; exact hc, h2, h5, by omega, h4, fun i hi => ?_⟩
    have := pairs_at (duos T n) i _ (duos_at T (by omega))
    rw [← h6, List.getElem?_take_of_lt (by omega), List.getElem?_take_of_lt (by omega), Array.getElem?_toList, Array.getElem?_toList] at this
    exact this

/-! ### New -/
theorem rnew_arg1 (size first : Int) (w : World) (h : size < 1 ∨ 256 < size) : Calls Try.prog 37 #[.int .i64 size, .int .u32 first] w fun e w' => e = .returned (.tuple #[.pointer none, .int .i64 2]) ∧ w = w' := by
  by_cases h0 : size < 1
  all_goals
    first | have h1 : 256 < size := by omega | skip
    clear h
    go_enter Try.func37, Try.ntmps37
    go_wp2
    go_ret2
    exact ⟨rfl, rfl⟩
theorem rnew_arg2 (size : Int) (w : World) (h1 : 1 ≤ size) (h2 : size ≤ 256) : Calls Try.prog 37 #[.int .i64 size, .int .u32 0] w fun e w' => e = .returned (.tuple #[.pointer none, .int .i64 2]) ∧ w = w' := by
  go_enter Try.func37, Try.ntmps37
  go_wp2_with (go_at_call 63; refine (rone_zero _).mono ?_; rintro e w' ⟨rfl, rfl⟩)
  go_ret2
  exact ⟨rfl, rfl⟩
structure RNSt (w0 w : World) (v : Value) (T : Tb) (k : Nat) : Prop where
  bk : Bk w w0.heap.size 108 #[v]
  o : w.ownsRow (w0.heap.size + 1) 110 2 v k (pairs (duos T k))
  bel : Below w0.heap.size w0 w
def RNewV (T : Tb) (w : World) (e : Ending) (w' : World) : Prop := ∃ c d, e = .returned (.tuple #[.pointer (some ⟨c, 0, none⟩), .int .i64 0]) ∧ w.heap.size ≤ c ∧ w.heap.size ≤ d ∧ RefW w' c d T ∧ Below w.heap.size w w'
set_option maxRecDepth 100000 in
set_option maxHeartbeats 2000000 in
theorem rnew_ok (n first : Nat) (w : World) (h1 : 1 ≤ n) (h2 : n ≤ 256) (h3 : 1 ≤ first) (h4 : first ≤ 4294967295) : Calls Try.prog 37 #[.int .i64 n, .int .u32 first] w (RNewV (fresh n first) w) := by
  obtain ⟨i0, hi, hz0, hz1, hz2⟩ := info_parts info_slot
  go_enter Try.func37, Try.ntmps37
  go_wp2_with (go_at_call 63; refine (rone_ok _ _ (by omega)).mono ?_; rintro e w' ⟨rfl, rfl⟩)
  have ST : Hid (∃ v, RNSt w (w.alloc (.cells #[.slice none 0 0] 108)) v (fresh n first) 0) := ⟨.slice none 0 0, Bk.new w _ _, World.ownsRow_nil _ _ _ _, (Below.refl _ w).alloc (Nat.le_refl _) _⟩
  generalize w.alloc (.cells #[.slice none 0 0] 108) = w1 at *
  go_loopw [7] (fun i wr => ∃ k : Nat, k ≤ n ∧ i = .int .i64 k ∧ Hid (∃ v, RNSt w wr v (fresh n first) k)) (fun i _ => n - (intOf i).toNat)
  case atStart => exact ⟨0, Nat.zero_le _, rfl, ST.out⟩
  case round =>
    clear ST
    obtain ⟨k, hk, rfl, HS⟩ := hrel
    obtain ⟨v, hv⟩ := HS.out
    have HV := Lib.hid hv
    have hc := hv.bk.cell 0
    have hf := hv.bk.frozen 0
    simp only [List.getElem?_toArray, List.getElem?_cons_zero] at hc
    have hown := hv.o
    have hlt0 := hv.bk.lt
    clear hv HS
    by_cases hlt : k < n
    · have hgk : (fresh n first).g k = first := by simp [fresh, hlt]
      have HG := Lib.hid hgk
      clear hgk
      go_wp2_with (at_builtin; refine wpList_append_own _ rfl _ _ 106 rfl (w.heap.size + 1) 110 i0 (.agg #[.int .i64 0, .int .u32 0]) 2 16 Try.underlying106 hi hz0 hz1 hz2 rfl (by decide) _ _ _ rfl (hown.alloc _) ⟨wr.heap.size, 0, none⟩ 1 1 [.int .i64 0, .int .u32 first] rfl rfl (cell_two_new _ _ _ _) ?c2 ?c3 ?c4 ?c5 ?_)
      case c2 => intro u hu; simp at hu; rcases hu with rfl | rfl <;> rfl
      case c3 => unfold maxLen; omega
      case c4 => omega
      case c5 => simp; omega
      intro v' w2 hown' hgrow _
      obtain ⟨g', cap', rfl⟩ := ownsRow_succ hown'
      have hge : ∀ j, v.ownBlock = some j → w.heap.size + 1 ≤ j := fun j ej => (hown.lt j ej).1
      have hb2 : Bk w2 w.heap.size 108 #[v] := by
        have e : w2.heap[w.heap.size]? = wr.heap[w.heap.size]? := by
          rw [hgrow.block w.heap.size (by simp; omega) (fun e => by have := hge _ e.symm; omega)]
          exact Below.heap_alloc _ _ _ hlt0
        exact HV.out.bk.same e
      have hbel2 : Below w.heap.size w w2 := (HV.out.bel.alloc HV.out.bel.size _).grown hgrow (by have := HV.out.bel.size; simp; omega) (fun j ej => by have := hge j ej; omega)
      have hc2 := hb2.cell 0
      have hf2 := hb2.frozen 0
      simp only [List.getElem?_toArray, List.getElem?_cons_zero] at hc2
      have HS2 : Hid (RNSt w (w2.setCell ⟨w.heap.size, 0, none⟩ (.slice (some ⟨g', 0, none⟩) (k + 1) cap')) (.slice (some ⟨g', 0, none⟩) (k + 1) cap') (fresh n first) (k + 1)) := by
        refine ⟨hb2.put 0 _, ?_, hbel2.setCell (p := ⟨w.heap.size, 0, none⟩) (Nat.le_refl _) _⟩
        have hp : pairs (duos (fresh n first) (k + 1)) = pairs (duos (fresh n first) k) ++ [.int .i64 (0 : Nat), .int .u32 first] := by
          rw [duos_snoc, pairs_snoc, HG.out]; rfl
        rw [hp]
        exact rown_kept hown' ((Kept.refl (· = w.heap.size) w2).put1 0 _) (Nat.lt_succ_self _)
      clear hown' hgrow hown hb2 hbel2 hge hc hf
      go_wp2
      go_roundw
      case rel => exact ⟨k + 1, by omega, by go_num, _, HS2.out⟩
      case measure => simp [intOf]; omega
    · obtain rfl : k = n := by omega
      obtain ⟨d, hd, hR⟩ := refW_of_own (fresh_ok h1 h2 h3 h4) rfl HV.out.bk HV.out.o
      have HR := Lib.hid hR
      have HD := Lib.hid hd
      clear hd hR hown hc hf
      go_wp2
      go_ret2
      exact ⟨w.heap.size, d, rfl, Nat.le_refl _, by have := HD.out; omega, HR.out, HV.out.bel⟩

/-! ### Take -/
theorem selFrom_skip {f : Nat → Nat} {v k n : Nat} (h : ∀ i, i < k → f i ≠ v) (hk : k ≤ n) : sel f v n = selFrom f v k n := by
  have key : ∀ d j, j + d = k → selFrom f v j n = selFrom f v k n := by
    intro d
    induction d with
    | zero =>
      intro j hj
      have e : j = k := by omega
      rw [e]
    | succ d ih =>
      intro j hj
      rw [selFrom_step _ _ (by omega : j < n), ih (j + 1) (by omega), if_neg (h j (by omega))]; rfl
  rw [← selFrom_zero]
  exact key k 0 (by omega)
def RTakeV (c d : Nat) (T : Tb) (w : World) (e : Ending) (w' : World) : Prop := e = .returned (.tuple #[.agg #[.int .i64 T.tI, .int .u32 T.tG], .int .i64 T.tE]) ∧ RefW w' c d T.take ∧ Kept (· = d) w w'
theorem rtake_nil (w : World) : Calls Try.prog 46 #[.pointer none] w fun e w' => e = .returned (.tuple #[.agg #[.int .i64 0, .int .u32 0], .int .i64 1]) ∧ Below w.heap.size w w' := by
  go_enter Try.func46, Try.ntmps46
  go_wp2_with (go_at_call 66; refine (rvalid_nil _).mono ?_; rintro e w' ⟨rfl, rfl⟩)
  exact bodyPost_ret (v := .tuple #[.agg #[.int .i64 0, .int .u32 0], .int .i64 1]) (by simp [results, Try.results46, go_sem]) rfl ⟨rfl, (Below.refl _ w).alloc (Nat.le_refl _) _⟩
set_option maxRecDepth 100000 in
set_option maxHeartbeats 2000000 in
theorem rtake_ok (c d : Nat) (T : Tb) (w : World) (h : RefW w c d T) : Calls Try.prog 46 #[.pointer (some ⟨c, 0, none⟩)] w (RTakeV c d T w) := by
  have hal : Below w.heap.size w (w.alloc (.cells #[.int .i64 0, .int .u32 0] 86)) := (Below.refl _ w).alloc (Nat.le_refl _) _
  have HW := Lib.hid (h.below hal)
  have HR := Lib.hid (Bk.new w 86 #[.int .i64 0, .int .u32 0])
  obtain ⟨cap, hc, hcap, hcm⟩ := h.c0
  have hn := h.ok.hi
  have hct := h.ct
  have hdt := h.dt
  have hne := h.ne
  have H := Lib.hid h
  clear h hal
  go_enter Try.func46, Try.ntmps46
  go_wp2_with (go_at_call 66; refine (rvalid_yes _ _ _ _ HW.out).mono ?_; rintro e w' ⟨rfl, rfl⟩)
  go_loop [4] (fun i => ∃ k : Nat, k ≤ T.n ∧ i = .int .i64 k ∧ Hid (∀ j, j < k → T.s j ≠ 0)) (fun i => T.n - (intOf i).toNat)
  case atStart => exact ⟨0, Nat.zero_le _, rfl, fun j hj => absurd hj (Nat.not_lt_zero j)⟩
  case round =>
    obtain ⟨k, hk, rfl, HJ⟩ := hrel
    by_cases hlt : k < T.n
    · have hcs := H.out.cs hlt
      have hcg := H.out.cg hlt
      have hfs := H.out.fz (k * 2)
      by_cases hs0 : T.s k = 0
      · have hfree : T.free = k :: selFrom T.s 0 (k + 1) T.n := by
          show sel T.s 0 T.n = _
          rw [selFrom_skip HJ.out (Nat.le_of_lt hlt), selFrom_step _ _ hlt, if_pos hs0]; rfl
        have HF := Lib.hid hfree
        rw [hs0] at hcs
        have HPT := Lib.hid (H.out.put_s hlt (H.out.ok.took k))
        clear hfree hs0
        obtain ⟨y, hy⟩ : ∃ y, T.g k = y := ⟨_, rfl⟩
        have HY := Lib.hid hy
        rw [hy] at hcg
        clear hy
        go_wp2
        refine bodyPost_ret (v := .tuple #[.agg #[.int .i64 k, .int .u32 y], .int .i64 0]) (by simp [results, Try.results46, go_sem]) rfl ⟨?_, ?_, ?_⟩
        · simp [Tb.tI, Tb.tG, Tb.tE, HF.out, HY.out]
        · have e : T.take = T.took k := by unfold Tb.take; rw [HF.out]
          rw [e]
          exact HPT.out.below ((Below.refl _ _).alloc (Nat.le_refl _) _)
        · exact ((Kept.refl (· = d) w).put1 _ _).alloc _
      · have hx : ((T.s k : Int) == 0) = false := beq_eq_false_iff_ne.2 (by omega)
        have HJ2 : Hid (∀ j, j < k + 1 → T.s j ≠ 0) := fun j hj => by
          by_cases e : j = k
          · subst e; exact hs0
          · exact HJ.out j (by omega)
        generalize T.s k = x at *
        clear hs0
        go_wp2
        go_round
        case rel => exact ⟨k + 1, by omega, by go_num, HJ2.out⟩
        case measure => simp [intOf]; omega
    · obtain rfl : k = T.n := by omega
      have hfree : T.free = [] := by
        show sel T.s 0 T.n = []
        rw [selFrom_skip HJ.out (Nat.le_refl _), selFrom_done _ _ (Nat.le_refl _)]
      have HF := Lib.hid hfree
      clear hfree
      go_wp2
      refine bodyPost_ret (v := .tuple #[.agg #[.int .i64 0, .int .u32 0], .int .i64 4]) (by simp [results, Try.results46, go_sem]) rfl ⟨?_, ?_, ?_⟩
      · simp [Tb.tI, Tb.tG, Tb.tE, HF.out]
      · have e : T.take = T := by unfold Tb.take; rw [HF.out]
        rw [e]
        exact HW.out
      · exact (Kept.refl (· = d) w).alloc _

/-! ### Give -/
theorem rgive_nil (i g : Int) (w : World) : Calls Try.prog 53 #[.pointer none, .agg #[.int .i64 i, .int .u32 g]] w fun e w' => e = .returned (.int .i64 1) ∧ Below w.heap.size w w' := by
  go_enter Try.func53, Try.ntmps53
  go_wp2_with fail
  refine (rchk_nil i g _).mono ?_
  rintro e w1 ⟨rfl, hb⟩
  have HB := Lib.hid (bel2 ((Below.refl _ w).alloc (Nat.le_refl _) _) hb)
  clear hb
  go_wp2
  go_ret
  exact ⟨rfl, HB.out⟩
theorem rgive_no (b d : Nat) (T : Tb) (i g E : Int) (w : World) (h : RefW w b d T) (hE : T.chk i g = E) (h0 : (E != 0) = true) : Calls Try.prog 53 #[.pointer (some ⟨b, 0, none⟩), .agg #[.int .i64 i, .int .u32 g]] w fun e w' => e = .returned (.int .i64 E) ∧ Below w.heap.size w w' := by
  have HW := Lib.hid (h.below ((Below.refl _ w).alloc (Nat.le_refl _) (.cells #[.int .i64 i, .int .u32 g] 86)))
  have HE := Lib.hid hE
  clear h hE
  go_enter Try.func53, Try.ntmps53
  go_wp2_with fail
  refine (rchk_any b d T i g _ HW.out).mono ?_
  rw [HE.out]
  rintro e w1 ⟨rfl, hb⟩
  have HB := Lib.hid (bel2 ((Below.refl _ w).alloc (Nat.le_refl _) _) hb)
  clear hb
  go_wp2
  go_ret
  exact ⟨rfl, HB.out⟩
theorem rchk_s (b d : Nat) (T : Tb) (i g E : Int) (w : World) (h : RefW w b d T) (e : T.chk i g = E) : Calls Try.prog 70 #[.pointer (some ⟨b, 0, none⟩), .agg #[.int .i64 i, .int .u32 g]] w fun e w' => e = .returned (.int .i64 E) ∧ Below w.heap.size w w' := by
  subst e
  exact rchk_any b d T i g w h
theorem put_put (f : Nat → Nat) (k a b : Nat) : put (put f k a) k b = put f k b := by
  funext i; simp only [put]; split <;> rfl
theorem gaveW {w : World} {c d : Nat} {T : Tb} {k y : Nat} (h : RefW w c d T) (hk : k < T.n) (h2 : Tb.Ok ⟨T.n, put T.s k 2, T.g⟩) (h3 : Tb.Ok ⟨T.n, put T.s k 0, put T.g k (y + 1)⟩) :
    RefW (((w.setCell ⟨d, k * 2, none⟩ (.int .i64 2)).setCell ⟨d, k * 2, none⟩ (.int .i64 0)).setCell ⟨d, k * 2 + 1, none⟩ (.int .u32 ((y : Int) + 1))) c d ⟨T.n, put T.s k 0, put T.g k (y + 1)⟩ := by
  have e := put_put T.s k 2 0
  have h4 : Tb.Ok ⟨T.n, put (put T.s k 2) k 0, T.g⟩ := by rw [e]; exact ⟨h.ok.lo, h.ok.hi, h3.st, h.ok.gm, h.ok.g1⟩
  have a1 := h.put_s (v := 2) hk h2
  have a2 := a1.put_s (v := 0) hk h4
  have a3 := a2.put_g (i := k) (v := y + 1) hk (by simp only []; rw [e]; exact h3)
  simp only [] at a3
  rw [e] at a3
  exact a3
def RGiveV (c d : Nat) (U : Tb) (E : Int) (w : World) (e : Ending) (w' : World) : Prop := e = .returned (.int .i64 E) ∧ RefW w' c d U ∧ Kept (· = d) w w'
set_option maxRecDepth 100000 in
set_option maxHeartbeats 4000000 in
theorem rgive_ok (c d : Nat) (T : Tb) (k : Nat) (w : World) (h : RefW w c d T) (hk : k < T.n) (hs : T.s k = 1) : Calls Try.prog 53 #[.pointer (some ⟨c, 0, none⟩), .agg #[.int .i64 k, .int .u32 (T.g k)]] w (RGiveV c d (T.gave k) 0 w) := by
  have hal : Below w.heap.size w (w.alloc (.cells #[.int .i64 k, .int .u32 (T.g k)] 86)) := (Below.refl _ w).alloc (Nat.le_refl _) _
  have HW := Lib.hid (h.below hal)
  have HR := Lib.hid (Bk.new w 86 #[.int .i64 k, .int .u32 (T.g k)])
  have HC := Lib.hid (Tb.chk_held hk hs)
  have hn := h.ok.hi
  have hne := h.ne
  have hct := h.ct
  have hdt := h.dt
  have hg1 := h.ok.g1 k hk
  have hgm := h.ok.gm k
  have hok := h.ok.gave k
  have hok2 : Tb.Ok ⟨T.n, put T.s k 2, T.g⟩ := ⟨h.ok.lo, h.ok.hi, fun i => by have := h.ok.st i; simp only [put]; split <;> omega, h.ok.gm, h.ok.g1⟩
  have HB0 := Lib.hid hal
  unfold Tb.gave at hok ⊢
  clear h hs hal
  obtain ⟨y, hy⟩ : ∃ y, T.g k = y := ⟨_, rfl⟩
  rw [hy] at HR HW HC HB0 hg1 hgm hok ⊢
  by_cases hl : y = 4294967295
  · rw [if_pos hl] at hok ⊢
    subst hl
    have HOK := Lib.hid hok
    clear hok hok2 hg1 hgm hy
    go_enter Try.func53, Try.ntmps53
    go_wp2_with fail
    refine (rchk_s c d T k 4294967295 0 _ HW.out HC.out).mono ?_
    rintro e w1 ⟨rfl, hb⟩
    have HW1 := Lib.hid (HW.out.below hb)
    have HR1 := Lib.hid (HR.out.below hb)
    have HB1 := Lib.hid (bel2 HB0.out hb)
    have hr0 : w1.cell? ⟨w.heap.size, 0, none⟩ = some (.int .i64 k) := HR1.out.cell 0
    have hr1 : w1.cell? ⟨w.heap.size, 1, none⟩ = some (.int .u32 4294967295) := HR1.out.cell 1
    obtain ⟨cap, hc, hcap, hcm⟩ := HW1.out.c0
    have hcs := HW1.out.cs hk
    have hfs := HW1.out.fz (k * 2)
    clear hb HW HR
    go_wp2_with fail
    refine (rnext_last _).mono ?_
    rintro e w' ⟨rfl, rfl⟩
    go_wp2
    go_region
    all_goals
      go_wp2
      go_ret
      exact ⟨rfl, (HW1.out.put_s hk HOK.out).same rfl rfl, ((Kept.of_below HB1.out).put1 (g := d) _ _).drew⟩
  · rw [if_neg hl] at hok ⊢
    have HOK := Lib.hid hok
    have HOK2 := Lib.hid hok2
    have h1 : (1 : Int) ≤ y := by omega
    have h2 : (y : Int) < 4294967295 := by omega
    clear hok hok2 hg1 hgm hy hl
    go_enter Try.func53, Try.ntmps53
    go_wp2_with fail
    refine (rchk_s c d T k y 0 _ HW.out HC.out).mono ?_
    rintro e w1 ⟨rfl, hb⟩
    have HW1 := Lib.hid (HW.out.below hb)
    have HR1 := Lib.hid (HR.out.below hb)
    have HB1 := Lib.hid (bel2 HB0.out hb)
    have hr0 : w1.cell? ⟨w.heap.size, 0, none⟩ = some (.int .i64 k) := HR1.out.cell 0
    have hr1 : w1.cell? ⟨w.heap.size, 1, none⟩ = some (.int .u32 y) := HR1.out.cell 1
    obtain ⟨cap, hc, hcap, hcm⟩ := HW1.out.c0
    have hcs := HW1.out.cs hk
    have hcg := HW1.out.cg hk
    have hfs := HW1.out.fz (k * 2)
    have hfg := HW1.out.fz (k * 2 + 1)
    clear hb HW HR
    go_wp2_with fail
    refine (rnext_yes y _ h1 h2).mono ?_
    rintro e w' ⟨rfl, rfl⟩
    go_wp2
    go_region
    all_goals
      go_wp2
      go_region
      all_goals
        go_wp2
        go_ret
        exact ⟨rfl, (gaveW HW1.out hk HOK2.out HOK.out).same rfl rfl, ((((Kept.of_below HB1.out).put1 (g := d) _ _).put1 _ _).put1 _ _).drewN 2⟩
theorem rgive_any (b d : Nat) (T : Tb) (i g : Int) (w : World) (h : RefW w b d T) : Calls Try.prog 53 #[.pointer (some ⟨b, 0, none⟩), .agg #[.int .i64 i, .int .u32 g]] w (RGiveV b d (T.given i g) (T.chk i g) w) := by
  unfold Tb.given
  rcases chk_cases T i g with ⟨h1, h2⟩ | ⟨k, rfl, h1, h3, h2⟩ | ⟨k, rfl, h1, h3, h4, h2⟩
  · rw [h2]; exact (rgive_no b d T i g 3 w h h2 (by decide)).mono fun e w' ⟨k1, k2⟩ => ⟨k1, h.below k2, Kept.of_below k2⟩
  · rw [h2]; exact (rgive_no b d T k g 7 w h h2 (by decide)).mono fun e w' ⟨k1, k2⟩ => ⟨k1, h.below k2, Kept.of_below k2⟩
  · rw [h2]; subst h4; exact rgive_ok b d T k w h h1 h3
end Go.Proofs.Ytfemfgpciogbeaa
