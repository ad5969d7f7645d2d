/- The contracts of the document's set: New, Add, Remove, Has, All, Count, Next, Clear, Size, Union, Minus, Copy. -/
import Derived.Test.YtaenemdclmnnaaaDoorBx
namespace Go.Proofs.YtaenemdclmnnaaaDoor
open Go.RowKit

theorem rvalid_nil (w : World) : Calls Tryd.prog 39 #[.pointer none] w fun e w' => e = .returned (.bool false) ∧ w = w' := by
  go_enter Tryd.func39, Tryd.ntmps39
  go_wp2
  go_ret
  exact ⟨rfl, rfl⟩
theorem rvalid_yes (b g n : Nat) (f : Nat → Bool) (w : World) (h : RefW w b g n f) : Calls Tryd.prog 39 #[.pointer (some ⟨b, 0, none⟩)] w fun e w' => e = .returned (.bool true) ∧ w = w' := by
  obtain ⟨cap, hc, _, _⟩ := h.c0
  have hn : 0 < n := h.lo
  clear h
  go_enter Tryd.func39, Tryd.ntmps39
  go_wp2
  go_ret
  exact ⟨rfl, rfl⟩

/-! ### New -/
theorem rnew_no (n : Int) (w : World) (h : n < 1 ∨ 4096 < n) : Calls Tryd.prog 12 #[.int .i64 n] w fun e w' => e = .returned (.tuple #[.pointer none, .int .i64 2]) ∧ w = w' := by
  by_cases h0 : n < 1
  all_goals
    first | have h1 : 4096 < n := by omega | skip
    clear h
    go_enter Tryd.func12, Tryd.ntmps12
    go_wp2
    go_ret2
    exact ⟨rfl, rfl⟩
theorem RefW.made (w : World) (n : Nat) (h1 : 1 ≤ n) (h2 : n ≤ 4096) : RefW ((w.alloc (.cells (made_ (.bool false) n) 4)).alloc (.cells #[.slice (some ⟨w.heap.size, 0, none⟩) n n] 66)) (w.heap.size + 1) w.heap.size n (fun _ => false) := by
  have hb1 := Bk.new w 4 (made_ (.bool false) n)
  have hb2 := Bk.new (w.alloc (.cells (made_ (.bool false) n) 4)) 66 #[.slice (some ⟨w.heap.size, 0, none⟩) n n]
  rw [World.size_alloc] at hb2
  exact ⟨h1, h2, fun _ _ => rfl, n, _, hb2, hb1.same (Below.heap_alloc _ _ _ (by simp)), made_size _ _, Nat.le_refl _, by unfold maxLen; omega, fun i hi => made_at _ hi⟩
def RNewV (n : Nat) (w : World) (e : Ending) (w' : World) : Prop :=
  ∃ b g, w.heap.size ≤ b ∧ w.heap.size ≤ g ∧ e = .returned (.tuple #[.pointer (some ⟨b, 0, none⟩), .int .i64 0]) ∧ RefW w' b g n (fun _ => false) ∧ Below w.heap.size w w'
theorem rnew_ok (n : Nat) (w : World) (h1 : 1 ≤ n) (h2 : n ≤ 4096) : Calls Tryd.prog 12 #[.int .i64 n] w (RNewV n w) := by
  have hmk := make_bool n h2
  go_enter Tryd.func12, Tryd.ntmps12
  go_wp2
  go_ret2
  exact ⟨w.heap.size + 1, w.heap.size, by omega, Nat.le_refl _, by simp, RefW.made w n h1 h2, ((Below.refl _ w).alloc (Nat.le_refl _) _).alloc (by simp) _⟩

/-! ### put, Add, Remove -/
theorem put_nil (i : Int) (v : Bool) (w : World) : Calls Tryd.prog 37 #[.pointer none, .int .i64 i, .bool v] w fun e w' => e = .returned (.int .i64 1) ∧ w = w' := by
  go_enter Tryd.func37, Tryd.ntmps37
  go_wp2_with (go_at_call 39; refine (rvalid_nil _).mono ?_; rintro e w' ⟨rfl, rfl⟩)
  go_ret
  exact ⟨rfl, rfl⟩
theorem put_out (b g n : Nat) (f : Nat → Bool) (i : Int) (v : Bool) (w : World) (h : RefW w b g n f) (hi : i < 0 ∨ (n : Int) ≤ i) : Calls Tryd.prog 37 #[.pointer (some ⟨b, 0, none⟩), .int .i64 i, .bool v] w fun e w' => e = .returned (.int .i64 3) ∧ w = w' := by
  obtain ⟨cap, hc, _, _⟩ := h.c0
  have H := Lib.hid h
  clear h
  by_cases h0 : i < 0
  all_goals
    first | have h1 : (n : Int) ≤ i := by omega | skip
    clear hi
    go_enter Tryd.func37, Tryd.ntmps37
    go_wp2_with (go_at_call 39; refine (rvalid_yes _ _ _ _ _ H.out).mono ?_; rintro e w' ⟨rfl, rfl⟩)
    go_ret
    exact ⟨rfl, rfl⟩
theorem put_in (b g n : Nat) (f : Nat → Bool) (k : Nat) (v : Bool) (w : World) (h : RefW w b g n f) (hk : k < n) : Calls Tryd.prog 37 #[.pointer (some ⟨b, 0, none⟩), .int .i64 k, .bool v] w fun e w' => e = .returned (.int .i64 0) ∧ RefW w' b g n (upd f k v) ∧ Kept (· = g) w w' := by
  obtain ⟨cap, hc, hn, hm⟩ := h.c0
  have hv := h.val hk
  have hf := h.fz k
  have hn3 := h.hi
  have HP := Lib.hid (h.put hk v)
  have H := Lib.hid h
  clear h
  go_enter Tryd.func37, Tryd.ntmps37
  go_wp2_with (go_at_call 39; refine (rvalid_yes _ _ _ _ _ H.out).mono ?_; rintro e w' ⟨rfl, rfl⟩)
  go_ret
  exact ⟨rfl, HP.out, (Kept.refl (· = g) w).put1 _ _⟩
theorem put_any (b g n : Nat) (f : Nat → Bool) (i : Int) (v : Bool) (w : World) (h : RefW w b g n f) : Calls Tryd.prog 37 #[.pointer (some ⟨b, 0, none⟩), .int .i64 i, .bool v] w fun e w' => e = .returned (.int .i64 (addE n i)) ∧ RefW w' b g n (setF f n i v) ∧ Kept (· = g) w w' := by
  by_cases hi : 0 ≤ i ∧ i < n
  · obtain ⟨k, rfl⟩ : ∃ k : Nat, i = k := ⟨i.toNat, by omega⟩
    have := put_in b g n f k v w h (by omega)
    simpa [addE, setF, hi] using this
  · unfold addE setF
    rw [if_neg hi, if_neg hi]
    exact (put_out b g n f i v w h (by omega)).mono fun e w' ⟨h1, h2⟩ => ⟨h1, h2 ▸ h, h2 ▸ Kept.refl _ _⟩
theorem radd_nil (i : Int) (w : World) : Calls Tryd.prog 14 #[.pointer none, .int .i64 i] w fun e w' => e = .returned (.int .i64 1) ∧ w = w' := by
  go_enter Tryd.func14, Tryd.ntmps14
  go_wp2_with (go_at_call 37; refine (put_nil _ _ _).mono ?_; rintro e w' ⟨rfl, rfl⟩)
  go_ret
  exact ⟨rfl, rfl⟩
theorem radd_any (b g n : Nat) (f : Nat → Bool) (i : Int) (w : World) (h : RefW w b g n f) : Calls Tryd.prog 14 #[.pointer (some ⟨b, 0, none⟩), .int .i64 i] w fun e w' => e = .returned (.int .i64 (addE n i)) ∧ RefW w' b g n (setF f n i true) ∧ Kept (· = g) w w' := by
  have H := Lib.hid (put_any b g n f i true w h)
  clear h
  go_enter Tryd.func14, Tryd.ntmps14
  go_wp2_with (go_at_call 37; refine H.out.mono ?_; rintro e w' ⟨rfl, h1, h2⟩)
  go_ret
  exact ⟨rfl, h1, h2⟩
theorem rremove_nil (i : Int) (w : World) : Calls Tryd.prog 16 #[.pointer none, .int .i64 i] w fun e w' => e = .returned (.int .i64 1) ∧ w = w' := by
  go_enter Tryd.func16, Tryd.ntmps16
  go_wp2_with (go_at_call 37; refine (put_nil _ _ _).mono ?_; rintro e w' ⟨rfl, rfl⟩)
  go_ret
  exact ⟨rfl, rfl⟩
theorem rremove_any (b g n : Nat) (f : Nat → Bool) (i : Int) (w : World) (h : RefW w b g n f) : Calls Tryd.prog 16 #[.pointer (some ⟨b, 0, none⟩), .int .i64 i] w fun e w' => e = .returned (.int .i64 (addE n i)) ∧ RefW w' b g n (setF f n i false) ∧ Kept (· = g) w w' := by
  have H := Lib.hid (put_any b g n f i false w h)
  clear h
  go_enter Tryd.func16, Tryd.ntmps16
  go_wp2_with (go_at_call 37; refine H.out.mono ?_; rintro e w' ⟨rfl, h1, h2⟩)
  go_ret
  exact ⟨rfl, h1, h2⟩

/-! ### Has, Size -/
theorem rhas_nil (i : Int) (w : World) : Calls Tryd.prog 49 #[.pointer none, .int .i64 i] w fun e w' => e = .returned (.bool false) ∧ w = w' := by
  go_enter Tryd.func49, Tryd.ntmps49
  go_wp2_with (go_at_call 39; refine (rvalid_nil _).mono ?_; rintro e w' ⟨rfl, rfl⟩)
  go_ret
  exact ⟨rfl, rfl⟩
theorem rhas_out (b g n : Nat) (f : Nat → Bool) (i : Int) (w : World) (h : RefW w b g n f) (hi : i < 0 ∨ (n : Int) ≤ i) : Calls Tryd.prog 49 #[.pointer (some ⟨b, 0, none⟩), .int .i64 i] w fun e w' => e = .returned (.bool false) ∧ w = w' := by
  obtain ⟨cap, hc, _, _⟩ := h.c0
  have H := Lib.hid h
  clear h
  by_cases h0 : i < 0
  · clear hi
    go_enter Tryd.func49, Tryd.ntmps49
    go_wp2_with (go_at_call 39; refine (rvalid_yes _ _ _ _ _ H.out).mono ?_; rintro e w' ⟨rfl, rfl⟩)
    go_ret
    exact ⟨rfl, rfl⟩
  · have h1 : (n : Int) ≤ i := by omega
    have h2 : 0 ≤ i := by omega
    have h3 : ¬ i < (n : Int) := by omega
    have h4 : decide (i < (n : Int)) = false := decide_eq_false h3
    clear hi h3
    go_enter Tryd.func49, Tryd.ntmps49
    go_wp2_with (go_at_call 39; refine (rvalid_yes _ _ _ _ _ H.out).mono ?_; rintro e w' ⟨rfl, rfl⟩)
    go_ret
    exact ⟨rfl, rfl⟩
theorem rhas_in (b g n : Nat) (f : Nat → Bool) (k : Nat) (w : World) (h : RefW w b g n f) (hk : k < n) : Calls Tryd.prog 49 #[.pointer (some ⟨b, 0, none⟩), .int .i64 k] w fun e w' => e = .returned (.bool (f k)) ∧ w = w' := by
  obtain ⟨cap, hc, _, _⟩ := h.c0
  have hn3 := h.hi
  have hv := h.val hk
  have H := Lib.hid h
  clear h
  generalize f k = x at hv ⊢
  go_enter Tryd.func49, Tryd.ntmps49
  go_wp2_with (go_at_call 39; refine (rvalid_yes _ _ _ _ _ H.out).mono ?_; rintro e w' ⟨rfl, rfl⟩)
  go_ret
  exact ⟨rfl, rfl⟩
theorem rhas_any (b g n : Nat) (f : Nat → Bool) (i : Int) (w : World) (h : RefW w b g n f) : Calls Tryd.prog 49 #[.pointer (some ⟨b, 0, none⟩), .int .i64 i] w fun e w' => e = .returned (.bool (hasE f n i)) ∧ w = w' := by
  by_cases hi : 0 ≤ i ∧ i < n
  · obtain ⟨k, rfl⟩ : ∃ k : Nat, i = k := ⟨i.toNat, by omega⟩
    have := rhas_in b g n f k w h (by omega)
    simpa [hasE, hi] using this
  · unfold hasE
    rw [if_neg hi]
    exact rhas_out b g n f i w h (by omega)
theorem rsize_nil (w : World) : Calls Tryd.prog 48 #[.pointer none] w fun e w' => e = .returned (.int .i64 0) ∧ w = w' := by
  go_enter Tryd.func48, Tryd.ntmps48
  go_wp2_with (go_at_call 39; refine (rvalid_nil _).mono ?_; rintro e w' ⟨rfl, rfl⟩)
  go_ret
  exact ⟨rfl, rfl⟩
theorem rsize_ok (b g n : Nat) (f : Nat → Bool) (w : World) (h : RefW w b g n f) : Calls Tryd.prog 48 #[.pointer (some ⟨b, 0, none⟩)] w fun e w' => e = .returned (.int .i64 n) ∧ w = w' := by
  obtain ⟨cap, hc, _, _⟩ := h.c0
  have H := Lib.hid h
  clear h
  go_enter Tryd.func48, Tryd.ntmps48
  go_wp2_with (go_at_call 39; refine (rvalid_yes _ _ _ _ _ H.out).mono ?_; rintro e w' ⟨rfl, rfl⟩)
  go_ret
  exact ⟨rfl, rfl⟩

/-! ### All, Count, Next -/
theorem rall_nil (w : World) : Calls Tryd.prog 46 #[.pointer none] w fun e w' => e = .returned (.slice none 0 0) ∧ w = w' := by
  go_enter Tryd.func46, Tryd.ntmps46
  go_wp2_with (go_at_call 39; refine (rvalid_nil _).mono ?_; rintro e w' ⟨rfl, rfl⟩)
  go_ret
  exact ⟨rfl, rfl⟩
set_option maxRecDepth 100000 in
set_option maxHeartbeats 1000000 in
theorem rall_ok (b g n : Nat) (f : Nat → Bool) (w : World) (h : RefW w b g n f) : Calls Tryd.prog 46 #[.pointer (some ⟨b, 0, none⟩)] w (AllV (lst f n) w) := by
  obtain ⟨i0, hi, hz0, hz1, hz2⟩ := info_parts info_int
  have hn := h.hi
  have H := Lib.hid h
  clear h
  go_enter Tryd.func46, Tryd.ntmps46
  go_wp2_with (go_at_call 39; refine (rvalid_yes _ _ _ _ _ H.out).mono ?_; rintro e w' ⟨rfl, rfl⟩)
  go_loopw [3, 4] (fun v i wr => ∃ k : Nat, k ≤ n ∧ i = .int .i64 k ∧ Hid (wr.ownsRow w.heap.size 3 1 v (lst f k).length (ints (lst f k))) ∧ Hid (v = .slice none 0 0 ↔ lst f k = []) ∧ Hid (Below w.heap.size w wr)) (fun _ i _ => n - (intOf i).toNat)
  case atStart => exact ⟨0, Nat.zero_le _, rfl, World.ownsRow_nil _ _ _ _, by simp [lst, Hid], Below.refl _ _⟩
  case round =>
    obtain ⟨k, hk, rfl, HO, HN, HBE⟩ := hrel
    have HR := Lib.hid (H.out.below HBE.out)
    obtain ⟨cap, hc, hnc, hm⟩ := HR.out.c0
    by_cases hlt : k < n
    · have hval := HR.out.val hlt
      have hsn := lst_snoc f k
      have hll := lst_len f k
      have hsz := HBE.out.size
      have hown := HO.out
      cases hfk : f k
      · rw [hfk] at hval hsn
        rw [if_neg (by decide), List.append_nil] at hsn
        have HSN := Lib.hid hsn
        clear hsn hfk hown
        go_wp2
        go_roundw
        case rel => exact ⟨k + 1, by omega, by go_num, by rw [HSN.out]; exact HO.out, by rw [HSN.out]; exact HN.out, HBE.out⟩
        case measure => simp [intOf]; omega
      · rw [hfk] at hval hsn
        rw [if_pos rfl] at hsn
        have HSN := Lib.hid hsn
        clear hsn hfk
        generalize lst f k = L at *
        go_wp2_with (at_builtin; refine wpList_append_own _ rfl _ _ 48 rfl w.heap.size 3 i0 (.int .i64 0) 1 8 Tryd.underlying48 hi hz0 hz1 hz2 rfl (by decide) _ _ _ rfl (hown.alloc _) ⟨wr.heap.size, 0, none⟩ 1 1 [.int .i64 (k : Int)] rfl rfl ?c1 ?c2 ?c3 ?c4 ?c5 ?_)
        case c1 =>
          intro j u hj
          match j, hj with
          | 0, hj => simp at hj; subst hj; simp [Addr.add]
        case c2 => intro u hu; simp at hu; subst hu; rfl
        case c3 => unfold maxLen; omega
        case c4 => omega
        case c5 => simp; omega
        intro v' w2 hown' hgrow hnil
        have HB2 := Lib.hid ((HBE.out.alloc hsz _).grown hgrow (by simp; omega) (fun q hq => (hown.lt q hq).1))
        have HO2 : Hid (w2.ownsRow w.heap.size 3 1 v' (L ++ [k]).length (ints (L ++ [k]))) := by
          unfold Hid; simpa [ints] using hown'
        have HN2 : Hid (v' = .slice none 0 0 ↔ L ++ [k] = []) := by
          unfold Hid
          constructor
          · intro e; exact absurd e (by simpa using hnil)
          · intro e; simp at e
        clear hown' hgrow hown hnil
        go_wp2
        go_roundw
        case rel => exact ⟨k + 1, by omega, by go_num, by rw [HSN.out]; exact HO2.out, by rw [HSN.out]; exact HN2.out, HB2.out⟩
        case measure => simp [intOf]; omega
    · obtain rfl : k = n := by omega
      go_wp2
      go_ret
      exact ⟨_, rfl, HO.out, HN.out, HBE.out⟩
theorem rall_s (b g m : Nat) (f : Nat → Bool) (w : World) (h : RefW w b g m f) : Calls Tryd.prog 46 #[.pointer (some ⟨b, 0, none⟩)] w (AllS (lst f m) w) := by
  refine (rall_ok b g m f w h).mono ?_
  rintro e w' ⟨v, rfl, h1, _, h3⟩
  have hlen : (lst f m).length ≤ 4096 := by have := lst_len f m; have := h.hi; omega
  refine ⟨v, rfl, Sl.of_own h1 hlen, ?_, h3⟩
  rintro a n c rfl
  rcases h1.2 with ⟨e, _⟩ | ⟨g, cap, cur, e, h4, _⟩
  · cases e
  · injection e with e; injection e with e; subst e; exact h4
theorem rcount_nil (w : World) : Calls Tryd.prog 47 #[.pointer none] w fun e w' => e = .returned (.int .i64 0) ∧ w = w' := by
  go_enter Tryd.func47, Tryd.ntmps47
  go_wp2_with (go_at_call 46; refine (rall_nil _).mono ?_; rintro e w' ⟨rfl, rfl⟩)
  go_ret
  exact ⟨rfl, rfl⟩
theorem rcount_ok (b g n : Nat) (f : Nat → Bool) (w : World) (h : RefW w b g n f) : Calls Tryd.prog 47 #[.pointer (some ⟨b, 0, none⟩)] w fun e w' => e = .returned (.int .i64 (lst f n).length) ∧ Below w.heap.size w w' := by
  have H := Lib.hid (rall_s b g n f w h)
  clear h
  generalize lst f n = L at *
  go_enter Tryd.func47, Tryd.ntmps47
  go_wp2_with (go_at_call 46; refine H.out.mono ?_; rintro e w' ⟨v, rfl, ⟨a, c, rfl, _, _⟩, _, hb⟩)
  go_ret
  exact ⟨rfl, hb⟩
end Go.Proofs.YtaenemdclmnnaaaDoor
