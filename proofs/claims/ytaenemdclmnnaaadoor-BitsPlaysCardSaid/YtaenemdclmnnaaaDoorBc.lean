/- The contracts of bits' New, Clear, Count, of slices.Clone at []uint64, and of Copy. -/
import Derived.Test.YtaenemdclmnnaaaDoorBb
import Derived.OwnWalk
import Derived.Deep.RegionWith
namespace Go.Proofs.YtaenemdclmnnaaaDoor
open Go.RowKit

theorem info_u64 : (Tryd.prog.info? 62).map (fun i => (i.zero, i.size, i.bytes)) = some (some (.int .u64 0), 1, 8) := by kernel_rfl
theorem info_bool : (Tryd.prog.info? 4).map (fun i => (i.zero, i.size, i.bytes)) = some (some (.bool false), 1, 1) := by kernel_rfl
theorem info_int : (Tryd.prog.info? 3).map (fun i => (i.zero, i.size, i.bytes)) = some (some (.int .i64 0), 1, 8) := by kernel_rfl
theorem zero_u64 (w : World) : (zeroValue 62).run Tryd.prog w = .ok (.int .u64 0) w := by kernel_rfl
theorem zero_bool (w : World) : (zeroValue 4).run Tryd.prog w = .ok (.bool false) w := by kernel_rfl

/-- The cells of a new array of n elements. -/
def made_ (z : Value) (n : Nat) : Array Value := madeCells #[z] n
theorem made_size (z : Value) (n : Nat) : (made_ z n).size = n := size_madeCells _ _
theorem made_at (z : Value) {n i : Nat} (h : i < n) : (made_ z n)[i]? = some z := by
  have := toList_madeCells_one z n
  unfold made_
  rw [← Array.getElem?_toList, this]; simp [h]
theorem make_u64 (m : Nat) (M : Int) (hM : M = m) (hm : m ≤ 64) (W : World) : (Instr.makeSlice 40 (.int .i64 M) (.int .i64 M)).run Tryd.prog W = .ok (.slice (some ⟨W.heap.size, 0, none⟩) m m) (W.alloc (.cells (made_ (.int .u64 0) m) 62)) := by
  obtain ⟨i0, hi, hz0, hz1, hz2⟩ := info_parts info_u64
  subst hM
  have := run_make (P := Tryd.prog) W 40 62 i0 _ Tryd.underlying40 hi hz0 .i64 .i64 m m (by omega) (by omega) (by rw [hz2]; omega) (by omega)
  rw [this, hz1]
  simp [made_, Value.cells]
theorem make_bool (m : Nat) (hm : m ≤ 4096) (W : World) : (Instr.makeSlice 52 (.int .i64 m) (.int .i64 m)).run Tryd.prog W = .ok (.slice (some ⟨W.heap.size, 0, none⟩) m m) (W.alloc (.cells (made_ (.bool false) m) 4)) := by
  obtain ⟨i0, hi, hz0, hz1, hz2⟩ := info_parts info_bool
  have := run_make (P := Tryd.prog) W 52 4 i0 _ Tryd.underlying52 hi hz0 .i64 .i64 m m (by omega) (by omega) (by rw [hz2]; omega) (by omega)
  rw [this, hz1]
  simp [made_, Value.cells]

/-! ### New -/
theorem new_no (n : Int) (w : World) (h : n < 1 ∨ 4096 < n) : Calls Tryd.prog 11 #[.int .i64 n] w fun e w' => e = .returned (.tuple #[.pointer none, .int .i64 2]) ∧ w = w' := by
  by_cases h0 : n < 1
  all_goals
    first | have h1 : 4096 < n := by omega | skip
    clear h
    go_enter Tryd.func11, Tryd.ntmps11
    go_wp2
    go_ret2
    exact ⟨rfl, rfl⟩
def NewV (n : Nat) (w : World) (e : Ending) (w' : World) : Prop :=
  ∃ b g, w.heap.size ≤ b ∧ w.heap.size ≤ g ∧ e = .returned (.tuple #[.pointer (some ⟨b, 0, none⟩), .int .i64 0]) ∧ SetW w' b g n (fun _ => false) ∧ Below w.heap.size w w'
theorem new_ok (n : Nat) (w : World) (h1 : 1 ≤ n) (h2 : n ≤ 4096) : Calls Tryd.prog 11 #[.int .i64 n] w (NewV n w) := by
  obtain ⟨k, rfl⟩ : ∃ k, n = k + 1 := ⟨n - 1, by omega⟩
  obtain ⟨i, hi⟩ : ∃ i, k / 64 = i := ⟨_, rfl⟩
  have hnw : nw (k + 1) = i + 1 := by unfold nw; rw [← hi]; rfl
  have hil : i < 64 := by omega
  have hmk := make_u64 (i + 1) ((i : Int) + 1) (by omega) (by omega)
  obtain ⟨p, hp⟩ : ∃ p, 2 ^ (k % 64) = p := ⟨_, rfl⟩
  have HI := Lib.hid hi
  have HP := Lib.hid hp
  have HN := Lib.hid hnw
  clear hi hp hnw
  have h3 : ((k + 1 : Nat) : Int) = (k : Int) + 1 := by omega
  go_enter Tryd.func11, Tryd.ntmps11
  go_wp2_with (go_at_call 35; refine (place_ok k i p _ (by omega) HI.out HP.out).mono ?_; rintro e w' ⟨rfl, q, rfl⟩)
  go_ret2
  have hb1 := Bk.new (w.drewN q) 62 (made_ (.int .u64 0) (i + 1))
  have hb2 := Bk.new ((w.drewN q).alloc (.cells (made_ (.int .u64 0) (i + 1)) 62)) 42 #[.int .i64 ((k : Int) + 1), .slice (some ⟨w.heap.size, 0, none⟩) (i + 1) (i + 1)]
  refine ⟨w.heap.size + 1, w.heap.size, by omega, Nat.le_refl _, by simp, ⟨h1, h2, fun _ _ => rfl, i + 1, made_ (.int .u64 0) (i + 1), ?_, ?_, made_size _ _, Nat.le_of_eq HN.out, by unfold maxLen; omega, fun j hj => ?_⟩, ?_⟩
  · rw [HN.out, h3]
    simpa using hb2
  · exact hb1.same (Below.heap_alloc _ _ _ (by simp))
  · rw [HN.out] at hj
    rw [word_none, made_at _ hj]; rfl
  · exact ((bel_drewN (Below.refl _ _) q).alloc (by simp) _).alloc (by simp) _

/-! ### Clear -/
theorem setCells_bk {g : Nat} {t : TypeId} : ∀ (vs : List Value) (o : Nat) (w : World) (cs : Array Value), Bk w g t cs →
    ∃ cs' : Array Value, Bk (w.setCells g o vs) g t cs' ∧ cs'.size = cs.size ∧ (∀ i, i < o → cs'[i]? = cs[i]?) ∧ (∀ i, i < vs.length → o + i < cs.size → cs'[o + i]? = vs[i]?) ∧ ∀ i, o + vs.length ≤ i → cs'[i]? = cs[i]?
  | [], o, w, cs, h => ⟨cs, h, rfl, fun _ _ => rfl, fun i hi => by simp at hi, fun _ _ => rfl⟩
  | v :: r, o, w, cs, h => by
    obtain ⟨cs', h1, h2, h3, h4, h5⟩ := setCells_bk r (o + 1) (w.setCell ⟨g, o, none⟩ v) _ (h.put o v)
    refine ⟨cs', h1, by simpa using h2, fun i hi => ?_, fun i hi hs => ?_, fun i hi => ?_⟩
    · rw [h3 i (by omega), Array.getElem?_setIfInBounds, if_neg (by omega)]
    · cases i with
      | zero =>
        have e := h3 o (by omega)
        rw [Nat.add_zero, e, Array.getElem?_setIfInBounds, if_pos rfl, if_pos (by omega)]; rfl
      | succ i =>
        have e := h4 i (by simpa using hi) (by simp; omega)
        have e2 : o + (i + 1) = o + 1 + i := by omega
        rw [e2, e]; rfl
    · rw [h5 i (by simp at hi; omega), Array.getElem?_setIfInBounds, if_neg (by simp at hi; omega)]
theorem setCells_kept (g : Nat) : ∀ (vs : List Value) (o : Nat) (w : World), Kept (· = g) w (w.setCells g o vs)
  | [], _, _ => Kept.refl _ _
  | v :: r, o, w => ((Kept.refl (· = g) w).put1 o v).trans (setCells_kept g r (o + 1) _)
theorem SetW.cleared {w : World} {b g n : Nat} {f : Nat → Bool} (h : SetW w b g n f) : SetW (w.setCells g 0 (List.replicate (nw n) (.int .u64 0))) b g n (fun _ => false) := by
  have hk := setCells_kept g (List.replicate (nw n) (Value.int .u64 0)) 0 w
  have hne := h.ne
  obtain ⟨cap, cur, h1, h2, h3, h4, h5, h6⟩ := h.at_
  obtain ⟨cs', c1, c2, _, c4, _⟩ := setCells_bk (List.replicate (nw n) (Value.int .u64 0)) 0 w cur h2
  refine ⟨h.lo, h.hi, fun _ _ => rfl, cap, cs', h1.kept hk hne, c1, c2.trans h3, h4, h5, fun i hi => ?_⟩
  have := c4 i (by simpa using hi) (by omega)
  rw [Nat.zero_add] at this
  rw [this, word_none]; simp [hi]

theorem clear_inv (v : Option Addr) (w : World) (h : Inv w v) : Calls Tryd.prog 17 #[.pointer v] w fun e w' => e = .returned (.tuple #[]) ∧ w = w' := by
  have H := Lib.hid h
  clear h
  go_enter Tryd.func17, Tryd.ntmps17
  go_wp2_with (go_at_call 38; refine (valid_no _ _ H.out).mono ?_; rintro e w' ⟨rfl, rfl⟩)
  go_end0
  exact ⟨rfl, rfl⟩
theorem clear_ok (b g n : Nat) (f : Nat → Bool) (w : World) (h : SetW w b g n f) : Calls Tryd.prog 17 #[.pointer (some ⟨b, 0, none⟩)] w fun e w' => e = .returned (.tuple #[]) ∧ SetW w' b g n (fun _ => false) ∧ Kept (· = g) w w' := by
  obtain ⟨cap, hc1, hcap, hcm⟩ := h.c1
  have H := Lib.hid h
  have hcl : ∀ ty, (Builtin.clear_ #[40] ty #[.slice (some ⟨g, 0, none⟩) (nw n) cap]).run Tryd.prog w = .ok (.tuple #[]) (w.setCells g 0 (List.replicate (nw n) (.int .u64 0))) :=
    fun ty => Lib.run_clear_slice w 40 62 ty (.int .u64 0) Tryd.underlying40 zero_u64 rfl rfl g 0 (nw n) cap (by unfold nw; omega) (fun j hj => by rw [Nat.zero_add, H.out.word hj]; rfl) (fun j _ => by rw [Nat.zero_add]; exact H.out.fz j)
  clear h
  go_enter Tryd.func17, Tryd.ntmps17
  go_wp2_with (first | (go_at_call 38; refine (valid_yes _ _ _ _ _ H.out).mono ?_; rintro e w' ⟨rfl, rfl⟩) | simp only [hcl])
  go_end0
  exact ⟨rfl, H.out.cleared, setCells_kept _ _ _ _⟩

/-! ### Count -/
theorem count_inv (v : Option Addr) (w : World) (h : Inv w v) : Calls Tryd.prog 28 #[.pointer v] w fun e w' => e = .returned (.int .i64 0) ∧ w = w' := by
  have H := Lib.hid h
  clear h
  go_enter Tryd.func28, Tryd.ntmps28
  go_wp2_with (go_at_call 38; refine (valid_no _ _ H.out).mono ?_; rintro e w' ⟨rfl, rfl⟩)
  go_ret
  exact ⟨rfl, rfl⟩
/-- How many numbers there are in the words below the k-th. -/
def cnt (f : Nat → Bool) (k : Nat) : Nat := (seqW f 0 k).length
theorem cnt_succ (f : Nat → Bool) (k : Nat) : cnt f (k + 1) = cnt f k + pc (word f k) := by
  unfold cnt
  rw [seqW_eq f (k + 1) (k + 1) 0 (by omega), seqW_eq f k k 0 (by omega)]
  have e : 64 * (k + 1) = 64 * k + 64 := by omega
  rw [e, ← List.range'_append_1, List.filter_append, List.length_append, Nat.mul_zero, Nat.zero_add, ← bitsOf_word, List.length_map]
  rfl
theorem cnt_le (f : Nat → Bool) : ∀ k, cnt f k ≤ 64 * k
  | 0 => by simp [cnt, seqW]
  | k + 1 => by have := cnt_le f k; have := pc_le (word f k); rw [cnt_succ]; omega
theorem cnt_all {f : Nat → Bool} {n : Nat} (hf : ∀ k, n ≤ k → f k = false) : cnt f (nw n) = (lst f n).length := by unfold cnt; rw [seqW_all (nw_ge n) hf]
theorem cnt_zero (f : Nat → Bool) : cnt f 0 = 0 := by simp [cnt, seqW]
set_option maxHeartbeats 400000 in
theorem count_ok (b g n : Nat) (f : Nat → Bool) (w : World) (h : SetW w b g n f) : Calls Tryd.prog 28 #[.pointer (some ⟨b, 0, none⟩)] w fun e w' => e = .returned (.int .i64 (lst f n).length) ∧ w = w' := by
  obtain ⟨cap, hc1, hcap, hcm⟩ := h.c1
  have hnl := nw_le h.hi
  have ha := cnt_all h.out
  have hword : ∀ k, k < nw n → w.cell? ⟨g, k, none⟩ = some (.int .u64 (word f k)) := fun k hk => h.word hk
  have H := Lib.hid h
  clear h
  obtain ⟨m, hm⟩ : ∃ m, nw n = m := ⟨_, rfl⟩
  obtain ⟨l, hl⟩ : ∃ l, (lst f n).length = l := ⟨_, rfl⟩
  rw [hm] at hc1 hcap hnl hword ha
  rw [hl] at ha
  rw [hl]
  have HA := Lib.hid ha
  have HW := Lib.hid hword
  clear hm hl ha hword
  go_enter Tryd.func28, Tryd.ntmps28
  go_wp2_with (go_at_call 38; refine (valid_yes _ _ _ _ _ H.out).mono ?_; rintro e w' ⟨rfl, rfl⟩)
  go_loop [3, 14] (fun c i => ∃ k : Nat, k ≤ m ∧ i = .int .i64 k ∧ c = .int .i64 (cnt f k)) (fun _ i => m - (intOf i).toNat)
  case atStart => exact ⟨0, Nat.zero_le _, rfl, by rw [cnt_zero]; rfl⟩
  case round =>
    obtain ⟨k, hk, rfl, rfl⟩ := hrel
    by_cases hlt : k < m
    · have hw := HW.out k hlt
      obtain ⟨x, hx⟩ : ∃ x, word f k = x := ⟨_, rfl⟩
      have hx64 : x < 18446744073709551616 := by rw [← hx]; exact word_lt' _ _
      have hs := cnt_succ f k
      have hcl := cnt_le f k
      have hpl := pc_le x
      have hs' : cnt f (k + 1) ≤ 64 * (k + 1) := cnt_le f (k + 1)
      rw [hx] at hw hs
      obtain ⟨c, hc⟩ : ∃ c, cnt f k = c := ⟨_, rfl⟩
      obtain ⟨d, hd⟩ : ∃ d, pc x = d := ⟨_, rfl⟩
      rw [hc] at hcl
      rw [hd] at hpl
      rw [hc]
      rw [hc, hd] at hs
      have HS := Lib.hid hs
      have HD := Lib.hid hd
      have HXX := Lib.hid hx64
      clear hs hx hd hc hx64 hs'
      go_wp2_with (go_at_call 51; refine (ones_ok x _ HXX.out).mono ?_; rw [HD.out]; rintro e w' ⟨rfl, rfl⟩)
      go_round
      case rel => exact ⟨k + 1, by omega, by go_num, by rw [HS.out]; go_num⟩
      case measure => simp [intOf]; omega
    · obtain rfl : k = m := by omega
      rw [HA.out]
      go_wp2
      go_ret
      exact ⟨rfl, rfl⟩
end Go.Proofs.YtaenemdclmnnaaaDoor
