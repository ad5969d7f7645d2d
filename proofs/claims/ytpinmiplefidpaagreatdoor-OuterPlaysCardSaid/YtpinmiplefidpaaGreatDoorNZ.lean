/- The layer Z, joined. -/
import Derived.Test.YtpinmiplefidpaaGreatDoorMY
import Derived.StillTailTactics
import Derived.RegionTactic
import Derived.Lib.AppendZeros
import Derived.Deep.RegionLaw
import Derived.OwnWalk
import Derived.Deep.RegionHeldLaw
namespace Go.Proofs.YtpinmiplefidpaaGreatDoor.SR
open Go.RowKit

theorem pairs_at : ∀ (l : List (Nat × Nat)) (j : Nat) (r : Nat × Nat), l[j]? = some r → (pairs l)[j * 2]? = some (.int .i64 r.1) ∧ (pairs l)[j * 2 + 1]? = some (.int .u32 r.2)
  | [], j, r, h => by simp at h
  | a :: l, 0, r, h => by
    simp at h; subst h
    simp [pairs]
  | a :: l, j + 1, r, h => by
    simp at h
    have ih := pairs_at l j r h
    have e : pairs (a :: l) = .int .i64 a.1 :: .int .u32 a.2 :: pairs l := rfl
    have e1 : (j + 1) * 2 = j * 2 + 1 + 1 := by omega
    rw [e, e1, List.getElem?_cons_succ, List.getElem?_cons_succ, List.getElem?_cons_succ, List.getElem?_cons_succ]
    exact ih
/-- The slice value v reads as the references l. -/
def Sr (w : World) (v : Value) (l : List (Nat × Nat)) : Prop :=
  ∃ a c, v = .slice a l.length c ∧ (0 < l.length → ∃ g cur, a = some ⟨g, 0, none⟩ ∧ Bk w g 193 cur ∧ ∀ j r, l[j]? = some r → cur[j * 2]? = some (.int .i64 r.1) ∧ cur[j * 2 + 1]? = some (.int .u32 r.2))
theorem Sr.below {w w' : World} {v : Value} {l : List (Nat × Nat)} (h : Sr w v l) (hb : Below w.heap.size w w') : Sr w' v l := by
  obtain ⟨a, c, e, h⟩ := h
  refine ⟨a, c, e, fun h0 => ?_⟩
  obtain ⟨g, cur, e2, hg, hc⟩ := h h0
  exact ⟨g, cur, e2, hg.below hb, hc⟩
theorem Sr.kept {w w' : World} {v : Value} {l : List (Nat × Nat)} {b : Nat} {T : Tb} (h : Sr w v l) (k : Kept (· = b) w w') (ht : TabW w b T) : Sr w' v l := by
  obtain ⟨a, c, e, h⟩ := h
  refine ⟨a, c, e, fun h0 => ?_⟩
  obtain ⟨g, cur, e2, hg, hc⟩ := h h0
  have hn : g ≠ b := by rintro rfl; exact absurd (hg.uniq ht.bk).1 (by decide)
  exact ⟨g, cur, e2, hg.kept k hn, hc⟩
theorem Sr.of_own {w : World} {b : Nat} {v : Value} {l : List (Nat × Nat)} (h : w.ownsRow b 193 2 v l.length (pairs l)) : Sr w v l := by
  rcases h.2 with ⟨rfl, h0⟩ | ⟨g, cap, cur, rfl, h1, h2, h3, h4, h5, h6⟩
  · have : l = [] := List.eq_nil_of_length_eq_zero h0
    subst this
    exact ⟨none, 0, rfl, fun h => by simp at h⟩
  · refine ⟨_, cap, rfl, fun _ => ⟨g, cur, rfl, h2, fun j r hj => ?_⟩⟩
    have hjl : j < l.length := (List.getElem?_eq_some_iff.1 hj).1
    have := pairs_at l j r hj
    rw [← h6, List.getElem?_take_of_lt (by omega), List.getElem?_take_of_lt (by omega), Array.getElem?_toList, Array.getElem?_toList] at this
    exact this
theorem Sr.at {w : World} {a : Option Addr} {n c : Nat} {l : List (Nat × Nat)} (h : Sr w (.slice a n c) l) {j : Nat} {r : Nat × Nat} (hj : l[j]? = some r) : ∃ g, a = some ⟨g, 0, none⟩ ∧ g < w.heap.size ∧ w.cell? ⟨g, j * 2, none⟩ = some (.int .i64 r.1) ∧ w.cell? ⟨g, j * 2 + 1, none⟩ = some (.int .u32 r.2) := by
  obtain ⟨a', c', e, h⟩ := h
  injection e with e1 e2 e3
  subst e1
  have hjl : j < l.length := (List.getElem?_eq_some_iff.1 hj).1
  obtain ⟨g, cur, e2, hg, hc⟩ := h (by omega)
  exact ⟨g, e2, hg.lt, by rw [hg.cell]; exact (hc j r hj).1, by rw [hg.cell]; exact (hc j r hj).2⟩
theorem Sr.len {w : World} {v : Value} {l : List (Nat × Nat)} (h : Sr w v l) : ∃ a c, v = .slice a l.length c := by
  obtain ⟨a, c, e, _⟩ := h
  exact ⟨a, c, e⟩
/-- Taken, told by what its slice reads as. -/
def TkS (l : List (Nat × Nat)) (w : World) (e : Ending) (w' : World) : Prop := ∃ a c, e = .returned (.slice a l.length c) ∧ Sr w' (.slice a l.length c) l ∧ Below w.heap.size w w'

set_option maxRecDepth 100000 in
theorem rone_ok (g : Int) (w : World) (h1 : 1 ≤ g) : Calls Tryz.prog 56 #[.int .u32 g] w fun e w' => e = .returned (.int .i64 0) ∧ w = w' := by
  have hz : (g == 0) = false := by rw [beq_eq_false_iff_ne]; omega
  go_enter Tryz.func56, Tryz.ntmps56
  go_wp2
  go_ret
  exact ⟨rfl, rfl⟩
set_option maxRecDepth 100000 in
theorem rone_zero (w : World) : Calls Tryz.prog 56 #[.int .u32 0] w fun e w' => e = .returned (.int .i64 2) ∧ w = w' := by
  go_enter Tryz.func56, Tryz.ntmps56
  go_wp2
  go_ret
  exact ⟨rfl, rfl⟩
set_option maxRecDepth 100000 in
theorem rnext_last (w : World) : Calls Tryz.prog 139 #[.int .u32 4294967295] w fun e w' => e = .returned (.tuple #[.int .u32 0, .bool false, .int .i64 0]) ∧ w = w' := by
  go_enter Tryz.func139, Tryz.ntmps139
  go_wp2
  go_ret3
  exact ⟨rfl, rfl⟩
set_option maxRecDepth 100000 in
theorem rnext_yes (g : Int) (w : World) (h1 : 1 ≤ g) (h2 : g < 4294967295) : Calls Tryz.prog 139 #[.int .u32 g] w fun e w' => e = .returned (.tuple #[.int .u32 (g + 1), .bool true, .int .i64 0]) ∧ w = w' := by
  have hz : (g == 0) = false := by rw [beq_eq_false_iff_ne]; omega
  have hm : (g == 4294967295) = false := by rw [beq_eq_false_iff_ne]; omega
  go_enter Tryz.func139, Tryz.ntmps139
  go_wp2
  go_ret3
  exact ⟨rfl, rfl⟩

set_option maxRecDepth 100000 in
theorem rvalid_nil (w : World) : Calls Tryz.prog 144 #[.pointer none] w fun e w' => e = .returned (.bool false) ∧ w = w' := by
  go_enter Tryz.func144, Tryz.ntmps144
  go_wp2
  go_ret
  exact ⟨rfl, rfl⟩
set_option maxRecDepth 100000 in
theorem rvalid_yes (b d : Nat) (T : Tb) (w : World) (h : RefW w b d T) : Calls Tryz.prog 144 #[.pointer (some ⟨b, 0, none⟩)] w fun e w' => e = .returned (.bool true) ∧ w = w' := by
  obtain ⟨cap, hc, _, _⟩ := h.c0
  have hn : 0 < T.n := h.ok.lo
  clear h
  go_enter Tryz.func144, Tryz.ntmps144
  go_wp2
  go_ret
  exact ⟨rfl, rfl⟩

/-! ### Check -/
set_option maxRecDepth 100000 in
theorem rchk_nil (i g : Int) (w : World) : Calls Tryz.prog 138 #[.pointer none, .agg #[.int .i64 i, .int .u32 g]] w fun e w' => e = .returned (.int .i64 1) ∧ Below w.heap.size w w' := by
  go_enter Tryz.func138, Tryz.ntmps138
  go_wp2_with (go_at_call 144; refine (rvalid_nil _).mono ?_; rintro e w' ⟨rfl, rfl⟩)
  go_ret
  exact ⟨rfl, (Below.refl _ w).alloc (Nat.le_refl _) _⟩
set_option maxHeartbeats 1000000 in
set_option maxRecDepth 100000 in
theorem rchk_any (b d : Nat) (T : Tb) (i g : Int) (w : World) (h : RefW w b d T) : Calls Tryz.prog 138 #[.pointer (some ⟨b, 0, none⟩), .agg #[.int .i64 i, .int .u32 g]] w fun e w' => e = .returned (.int .i64 (T.chk i g)) ∧ Below w.heap.size w w' := by
  have HW := Lib.hid (h.below ((Below.refl _ w).alloc (Nat.le_refl _) (.cells #[.int .i64 i, .int .u32 g] 193)))
  obtain ⟨cap, hc, hcap, hcm⟩ := h.c0
  have hn := h.ok.hi
  have hbt := h.ct
  have hdt := h.dt
  rcases chk_cases T i g with ⟨h1, h2⟩ | ⟨k, rfl, h1, h3, h2⟩ | ⟨k, rfl, h1, h3, h4, h2⟩
  · rw [h2]
    clear h h2
    by_cases h0 : i < 0
    all_goals
      first | have h5 : (T.n : Int) ≤ i := by omega | skip
      clear h1
      go_enter Tryz.func138, Tryz.ntmps138
      go_wp2_with (go_at_call 144; refine (rvalid_yes _ _ _ _ HW.out).mono ?_; rintro e w' ⟨rfl, rfl⟩)
      go_quiet (fail)
      go_wp2
      go_ret
      exact ⟨rfl, bel_drewN ((Below.refl _ w).alloc (Nat.le_refl _) _) _⟩
  · rw [h2]
    have hcs := h.cs h1
    have hcg := h.cg h1
    clear h h2
    generalize T.s k = x at *
    generalize T.g k = y at *
    by_cases hx : x = 1
    · have hy := h3 hx
      subst hx
      have hy2 : ((y : Int) != g) = true := by simpa using hy
      clear h3 hy
      go_enter Tryz.func138, Tryz.ntmps138
      go_wp2_with (go_at_call 144; refine (rvalid_yes _ _ _ _ HW.out).mono ?_; rintro e w' ⟨rfl, rfl⟩)
      go_quiet (fail)
      go_wp2
      go_quiet (fail)
      go_wp2
      go_ret
      exact ⟨rfl, bel_drewN (bel_drewN ((Below.refl _ w).alloc (Nat.le_refl _) _) _) _⟩
    · have hx2 : ((x : Int) != 1) = true := by simp; omega
      clear h3 hx
      go_enter Tryz.func138, Tryz.ntmps138
      go_wp2_with (go_at_call 144; refine (rvalid_yes _ _ _ _ HW.out).mono ?_; rintro e w' ⟨rfl, rfl⟩)
      go_quiet (fail)
      go_wp2
      go_quiet (fail)
      go_wp2
      go_ret
      exact ⟨rfl, bel_drewN (bel_drewN ((Below.refl _ w).alloc (Nat.le_refl _) _) _) _⟩
  · rw [h2]
    have hcs := h.cs h1
    have hcg := h.cg h1
    rw [h3] at hcs
    rw [h4] at hcg
    have hy2 : (g != g) = false := by simp
    clear h h2 h3 h4
    go_enter Tryz.func138, Tryz.ntmps138
    go_wp2_with (go_at_call 144; refine (rvalid_yes _ _ _ _ HW.out).mono ?_; rintro e w' ⟨rfl, rfl⟩)
    go_quiet (fail)
    go_wp2
    go_quiet (fail)
    go_wp2
    go_ret
    exact ⟨rfl, bel_drewN (bel_drewN ((Below.refl _ w).alloc (Nat.le_refl _) _) _) _⟩

/-! ### Gen -/

/-! ### count -/

/-! ### Same -/
end Go.Proofs.YtpinmiplefidpaaGreatDoor.SR

namespace Go.Proofs.YtpinmiplefidpaaGreatDoor.SR
open Go.RowKit

theorem rown_kept {w w' : World} {base n s b : Nat} {e : TypeId} {v : Value} {xs : List Value} (h : w.ownsRow base e s v n xs) (k : Kept (· = b) w w') (hb : b < base) : w'.ownsRow base e s v n xs := by
  refine ⟨h.1, ?_⟩
  rcases h.2 with h | ⟨g, cap, cur, h1, h2, h3, h4⟩
  · exact .inl h
  · exact .inr ⟨g, cap, cur, h1, h2, (Bk.kept (show Bk w g e cur from h3) k (by omega)), h4⟩
/-- States with their generations, in a block. -/
def duos (T : Tb) (k : Nat) : List (Nat × Nat) := (List.range k).map fun i => (T.s i, T.g i)
theorem duos_snoc (T : Tb) (k : Nat) : duos T (k + 1) = duos T k ++ [(T.s k, T.g k)] := by simp [duos, List.range_succ]
theorem duos_len (T : Tb) (k : Nat) : (duos T k).length = k := by simp [duos]
theorem duos_at (T : Tb) {k i : Nat} (h : i < k) : (duos T k)[i]? = some (T.s i, T.g i) := by simp [duos, h]
theorem info_slot : (Tryz.prog.info? 215).map (fun i => (i.zero, i.size, i.bytes)) = some (some (.agg #[.int .i64 0, .int .u32 0]), 2, 16) := by kernel_rfl
/-- A row that the call owns, and the struct that names it, are the document's table. -/
theorem refW_of_own {w : World} {base c n : Nat} {v : Value} {T : Tb} (ho : T.Ok) (hn : T.n = n) (hc : Bk w c 213 #[v]) (h : w.ownsRow base 215 2 v n (pairs (duos T n))) : ∃ d, base ≤ d ∧ RefW w c d T := by
  have hlo := ho.lo
  rcases h.2 with ⟨rfl, h0⟩ | ⟨g, cap, cur, rfl, h1, h2, h3, h4, h5, h6⟩
  · omega
  · refine ⟨g, h1, ho, cap, cur, by rw [hn]; exact hc, h2, h5, by omega, h4, fun i hi => ?_⟩
    have := pairs_at (duos T n) i _ (duos_at T (by omega))
    rw [← h6, List.getElem?_take_of_lt (by omega), List.getElem?_take_of_lt (by omega), Array.getElem?_toList, Array.getElem?_toList] at this
    exact this

/-! ### New -/
set_option maxRecDepth 100000 in
theorem rnew_arg1 (size first : Int) (w : World) (h : size < 1 ∨ 256 < size) : Calls Tryz.prog 105 #[.int .i64 size, .int .u32 first] w fun e w' => e = .returned (.tuple #[.pointer none, .int .i64 2]) ∧ w = w' := by
  by_cases h0 : size < 1
  all_goals
    first | have h1 : 256 < size := by omega | skip
    clear h
    go_enter Tryz.func105, Tryz.ntmps105
    go_wp2
    go_ret2
    exact ⟨rfl, rfl⟩
set_option maxRecDepth 100000 in
theorem rnew_arg2 (size : Int) (w : World) (h1 : 1 ≤ size) (h2 : size ≤ 256) : Calls Tryz.prog 105 #[.int .i64 size, .int .u32 0] w fun e w' => e = .returned (.tuple #[.pointer none, .int .i64 2]) ∧ w = w' := by
  go_enter Tryz.func105, Tryz.ntmps105
  go_wp2_with (go_at_call 56; refine (rone_zero _).mono ?_; rintro e w' ⟨rfl, rfl⟩)
  go_ret2
  exact ⟨rfl, rfl⟩
structure RNSt (w0 w : World) (v : Value) (T : Tb) (k : Nat) : Prop where
  bk : Bk w w0.heap.size 213 #[v]
  o : w.ownsRow (w0.heap.size + 1) 215 2 v k (pairs (duos T k))
  bel : Below w0.heap.size w0 w
def RNewV (T : Tb) (w : World) (e : Ending) (w' : World) : Prop := ∃ c d, e = .returned (.tuple #[.pointer (some ⟨c, 0, none⟩), .int .i64 0]) ∧ w.heap.size ≤ c ∧ w.heap.size ≤ d ∧ RefW w' c d T ∧ Below w.heap.size w w'
set_option maxRecDepth 100000 in
set_option maxHeartbeats 2000000 in
theorem rnew_ok (n first : Nat) (w : World) (h1 : 1 ≤ n) (h2 : n ≤ 256) (h3 : 1 ≤ first) (h4 : first ≤ 4294967295) : Calls Tryz.prog 105 #[.int .i64 n, .int .u32 first] w (RNewV (fresh n first) w) := by
  obtain ⟨i0, hi, hz0, hz1, hz2⟩ := info_parts info_slot
  go_enter Tryz.func105, Tryz.ntmps105
  go_wp2_with (go_at_call 56; refine (rone_ok _ _ (by omega)).mono ?_; rintro e w' ⟨rfl, rfl⟩)
  have ST : Hid (∃ v, RNSt w (w.alloc (.cells #[.slice none 0 0] 213)) v (fresh n first) 0) := ⟨.slice none 0 0, Bk.new w _ _, World.ownsRow_nil _ _ _ _, (Below.refl _ w).alloc (Nat.le_refl _) _⟩
  generalize w.alloc (.cells #[.slice none 0 0] 213) = w1 at *
  go_loopw [7] (fun i wr => ∃ k : Nat, k ≤ n ∧ i = .int .i64 k ∧ Hid (∃ v, RNSt w wr v (fresh n first) k)) (fun i _ => n - (intOf i).toNat)
  case atStart => exact ⟨0, Nat.zero_le _, rfl, ST.out⟩
  case round =>
    clear ST
    obtain ⟨k, hk, rfl, HS⟩ := hrel
    obtain ⟨v, hv⟩ := HS.out
    have HV := Lib.hid hv
    have hc := hv.bk.cell 0
    have hf := hv.bk.frozen 0
    simp only [List.getElem?_toArray, List.getElem?_cons_zero] at hc
    have hown := hv.o
    have hlt0 := hv.bk.lt
    clear hv HS
    by_cases hlt : k < n
    · have hgk : (fresh n first).g k = first := by simp [fresh, hlt]
      have HG := Lib.hid hgk
      clear hgk
      go_wp2_with (at_builtin; refine wpList_append_own _ rfl _ _ 211 rfl (w.heap.size + 1) 215 i0 (.agg #[.int .i64 0, .int .u32 0]) 2 16 Tryz.underlying211 hi hz0 hz1 hz2 rfl (by decide) _ _ _ rfl (hown.alloc _) ⟨wr.heap.size, 0, none⟩ 1 1 [.int .i64 0, .int .u32 first] rfl rfl (cell_two_new _ _ _ _) ?c2 ?c3 ?c4 ?c5 ?_)
      case c2 => intro u hu; simp at hu; rcases hu with rfl | rfl <;> rfl
      case c3 => unfold maxLen; omega
      case c4 => omega
      case c5 => simp; omega
      intro v' w2 hown' hgrow _
      obtain ⟨g', cap', rfl⟩ := ownsRow_succ hown'
      have hge : ∀ j, v.ownBlock = some j → w.heap.size + 1 ≤ j := fun j ej => (hown.lt j ej).1
      have hb2 : Bk w2 w.heap.size 213 #[v] := by
        have e : w2.heap[w.heap.size]? = wr.heap[w.heap.size]? := by
          rw [hgrow.block w.heap.size (by simp; omega) (fun e => by have := hge _ e.symm; omega)]
          exact Below.heap_alloc _ _ _ hlt0
        exact HV.out.bk.same e
      have hbel2 : Below w.heap.size w w2 := (HV.out.bel.alloc HV.out.bel.size _).grown hgrow (by have := HV.out.bel.size; simp; omega) (fun j ej => by have := hge j ej; omega)
      have hc2 := hb2.cell 0
      have hf2 := hb2.frozen 0
      simp only [List.getElem?_toArray, List.getElem?_cons_zero] at hc2
      have HS2 : Hid (RNSt w (w2.setCell ⟨w.heap.size, 0, none⟩ (.slice (some ⟨g', 0, none⟩) (k + 1) cap')) (.slice (some ⟨g', 0, none⟩) (k + 1) cap') (fresh n first) (k + 1)) := by
        refine ⟨hb2.put 0 _, ?_, hbel2.setCell (p := ⟨w.heap.size, 0, none⟩) (Nat.le_refl _) _⟩
        have hp : pairs (duos (fresh n first) (k + 1)) = pairs (duos (fresh n first) k) ++ [.int .i64 (0 : Nat), .int .u32 first] := by
          rw [duos_snoc, pairs_snoc, HG.out]; rfl
        rw [hp]
        exact rown_kept hown' ((Kept.refl (· = w.heap.size) w2).put1 0 _) (Nat.lt_succ_self _)
      clear hown' hgrow hown hb2 hbel2 hge hc hf
      go_wp2
      go_roundw
      case rel => exact ⟨k + 1, by omega, by go_num, _, HS2.out⟩
      case measure => simp [intOf]; omega
    · obtain rfl : k = n := by omega
      obtain ⟨d, hd, hR⟩ := refW_of_own (fresh_ok h1 h2 h3 h4) rfl HV.out.bk HV.out.o
      have HR := Lib.hid hR
      have HD := Lib.hid hd
      clear hd hR hown hc hf
      go_wp2
      go_ret2
      exact ⟨w.heap.size, d, rfl, Nat.le_refl _, by have := HD.out; omega, HR.out, HV.out.bel⟩

/-! ### Take -/
theorem selFrom_skip {f : Nat → Nat} {v k n : Nat} (h : ∀ i, i < k → f i ≠ v) (hk : k ≤ n) : sel f v n = selFrom f v k n := by
  have key : ∀ d j, j + d = k → selFrom f v j n = selFrom f v k n := by
    intro d
    induction d with
    | zero =>
      intro j hj
      have e : j = k := by omega
      rw [e]
    | succ d ih =>
      intro j hj
      rw [selFrom_step _ _ (by omega : j < n), ih (j + 1) (by omega), if_neg (h j (by omega))]; rfl
  rw [← selFrom_zero]
  exact key k 0 (by omega)
def RTakeV (c d : Nat) (T : Tb) (w : World) (e : Ending) (w' : World) : Prop := e = .returned (.tuple #[.agg #[.int .i64 T.tI, .int .u32 T.tG], .int .i64 T.tE]) ∧ RefW w' c d T.take ∧ Kept (· = d) w w'
set_option maxRecDepth 100000 in
theorem rtake_nil (w : World) : Calls Tryz.prog 137 #[.pointer none] w fun e w' => e = .returned (.tuple #[.agg #[.int .i64 0, .int .u32 0], .int .i64 1]) ∧ Below w.heap.size w w' := by
  go_enter Tryz.func137, Tryz.ntmps137
  go_wp2_with (go_at_call 144; refine (rvalid_nil _).mono ?_; rintro e w' ⟨rfl, rfl⟩)
  exact bodyPost_ret (v := .tuple #[.agg #[.int .i64 0, .int .u32 0], .int .i64 1]) (by simp [results, Tryz.results137, go_sem]) rfl ⟨rfl, (Below.refl _ w).alloc (Nat.le_refl _) _⟩
set_option maxRecDepth 100000 in
set_option maxHeartbeats 2000000 in
theorem rtake_ok (c d : Nat) (T : Tb) (w : World) (h : RefW w c d T) : Calls Tryz.prog 137 #[.pointer (some ⟨c, 0, none⟩)] w (RTakeV c d T w) := by
  have hal : Below w.heap.size w (w.alloc (.cells #[.int .i64 0, .int .u32 0] 193)) := (Below.refl _ w).alloc (Nat.le_refl _) _
  have HW := Lib.hid (h.below hal)
  have HR := Lib.hid (Bk.new w 193 #[.int .i64 0, .int .u32 0])
  obtain ⟨cap, hc, hcap, hcm⟩ := h.c0
  have hn := h.ok.hi
  have hct := h.ct
  have hdt := h.dt
  have hne := h.ne
  have H := Lib.hid h
  clear h hal
  go_enter Tryz.func137, Tryz.ntmps137
  go_wp2_with (go_at_call 144; refine (rvalid_yes _ _ _ _ HW.out).mono ?_; rintro e w' ⟨rfl, rfl⟩)
  go_loop [4] (fun i => ∃ k : Nat, k ≤ T.n ∧ i = .int .i64 k ∧ Hid (∀ j, j < k → T.s j ≠ 0)) (fun i => T.n - (intOf i).toNat)
  case atStart => exact ⟨0, Nat.zero_le _, rfl, fun j hj => absurd hj (Nat.not_lt_zero j)⟩
  case round =>
    obtain ⟨k, hk, rfl, HJ⟩ := hrel
    by_cases hlt : k < T.n
    · have hcs := H.out.cs hlt
      have hcg := H.out.cg hlt
      have hfs := H.out.fz (k * 2)
      by_cases hs0 : T.s k = 0
      · have hfree : T.free = k :: selFrom T.s 0 (k + 1) T.n := by
          show sel T.s 0 T.n = _
          rw [selFrom_skip HJ.out (Nat.le_of_lt hlt), selFrom_step _ _ hlt, if_pos hs0]; rfl
        have HF := Lib.hid hfree
        rw [hs0] at hcs
        have HPT := Lib.hid (H.out.put_s hlt (H.out.ok.took k))
        clear hfree hs0
        obtain ⟨y, hy⟩ : ∃ y, T.g k = y := ⟨_, rfl⟩
        have HY := Lib.hid hy
        rw [hy] at hcg
        clear hy
        go_wp2
        refine bodyPost_ret (v := .tuple #[.agg #[.int .i64 k, .int .u32 y], .int .i64 0]) (by simp [results, Tryz.results137, go_sem]) rfl ⟨?_, ?_, ?_⟩
        · simp [Tb.tI, Tb.tG, Tb.tE, HF.out, HY.out]
        · have e : T.take = T.took k := by unfold Tb.take; rw [HF.out]
          rw [e]
          exact HPT.out.below ((Below.refl _ _).alloc (Nat.le_refl _) _)
        · exact ((Kept.refl (· = d) w).put1 _ _).alloc _
      · have hx : ((T.s k : Int) == 0) = false := beq_eq_false_iff_ne.2 (by omega)
        have HJ2 : Hid (∀ j, j < k + 1 → T.s j ≠ 0) := fun j hj => by
          by_cases e : j = k
          · subst e; exact hs0
          · exact HJ.out j (by omega)
        generalize T.s k = x at *
        clear hs0
        go_wp2
        go_round
        case rel => exact ⟨k + 1, by omega, by go_num, HJ2.out⟩
        case measure => simp [intOf]; omega
    · obtain rfl : k = T.n := by omega
      have hfree : T.free = [] := by
        show sel T.s 0 T.n = []
        rw [selFrom_skip HJ.out (Nat.le_refl _), selFrom_done _ _ (Nat.le_refl _)]
      have HF := Lib.hid hfree
      clear hfree
      go_wp2
      refine bodyPost_ret (v := .tuple #[.agg #[.int .i64 0, .int .u32 0], .int .i64 4]) (by simp [results, Tryz.results137, go_sem]) rfl ⟨?_, ?_, ?_⟩
      · simp [Tb.tI, Tb.tG, Tb.tE, HF.out]
      · have e : T.take = T := by unfold Tb.take; rw [HF.out]
        rw [e]
        exact HW.out
      · exact (Kept.refl (· = d) w).alloc _

/-! ### Give -/
set_option maxRecDepth 100000 in
theorem rgive_nil (i g : Int) (w : World) : Calls Tryz.prog 118 #[.pointer none, .agg #[.int .i64 i, .int .u32 g]] w fun e w' => e = .returned (.int .i64 1) ∧ Below w.heap.size w w' := by
  go_enter Tryz.func118, Tryz.ntmps118
  go_wp2_with fail
  refine (rchk_nil i g _).mono ?_
  rintro e w1 ⟨rfl, hb⟩
  have HB := Lib.hid (bel2 ((Below.refl _ w).alloc (Nat.le_refl _) _) hb)
  clear hb
  go_wp2
  go_ret
  exact ⟨rfl, HB.out⟩
set_option maxRecDepth 100000 in
theorem rgive_no (b d : Nat) (T : Tb) (i g E : Int) (w : World) (h : RefW w b d T) (hE : T.chk i g = E) (h0 : (E != 0) = true) : Calls Tryz.prog 118 #[.pointer (some ⟨b, 0, none⟩), .agg #[.int .i64 i, .int .u32 g]] w fun e w' => e = .returned (.int .i64 E) ∧ Below w.heap.size w w' := by
  have HW := Lib.hid (h.below ((Below.refl _ w).alloc (Nat.le_refl _) (.cells #[.int .i64 i, .int .u32 g] 193)))
  have HE := Lib.hid hE
  clear h hE
  go_enter Tryz.func118, Tryz.ntmps118
  go_wp2_with fail
  refine (rchk_any b d T i g _ HW.out).mono ?_
  rw [HE.out]
  rintro e w1 ⟨rfl, hb⟩
  have HB := Lib.hid (bel2 ((Below.refl _ w).alloc (Nat.le_refl _) _) hb)
  clear hb
  go_wp2
  go_ret
  exact ⟨rfl, HB.out⟩
theorem rchk_s (b d : Nat) (T : Tb) (i g E : Int) (w : World) (h : RefW w b d T) (e : T.chk i g = E) : Calls Tryz.prog 138 #[.pointer (some ⟨b, 0, none⟩), .agg #[.int .i64 i, .int .u32 g]] w fun e w' => e = .returned (.int .i64 E) ∧ Below w.heap.size w w' := by
  subst e
  exact rchk_any b d T i g w h
theorem put_put (f : Nat → Nat) (k a b : Nat) : put (put f k a) k b = put f k b := by
  funext i; simp only [put]; split <;> rfl
theorem gaveW {w : World} {c d : Nat} {T : Tb} {k y : Nat} (h : RefW w c d T) (hk : k < T.n) (h2 : Tb.Ok ⟨T.n, put T.s k 2, T.g⟩) (h3 : Tb.Ok ⟨T.n, put T.s k 0, put T.g k (y + 1)⟩) :
    RefW (((w.setCell ⟨d, k * 2, none⟩ (.int .i64 2)).setCell ⟨d, k * 2, none⟩ (.int .i64 0)).setCell ⟨d, k * 2 + 1, none⟩ (.int .u32 ((y : Int) + 1))) c d ⟨T.n, put T.s k 0, put T.g k (y + 1)⟩ := by
  have e := put_put T.s k 2 0
  have h4 : Tb.Ok ⟨T.n, put (put T.s k 2) k 0, T.g⟩ := by rw [e]; exact ⟨h.ok.lo, h.ok.hi, h3.st, h.ok.gm, h.ok.g1⟩
  have a1 := h.put_s (v := 2) hk h2
  have a2 := a1.put_s (v := 0) hk h4
  have a3 := a2.put_g (i := k) (v := y + 1) hk (by simp only []; rw [e]; exact h3)
  simp only [] at a3
  rw [e] at a3
  exact a3
def RGiveV (c d : Nat) (U : Tb) (E : Int) (w : World) (e : Ending) (w' : World) : Prop := e = .returned (.int .i64 E) ∧ RefW w' c d U ∧ Kept (· = d) w w'
set_option maxRecDepth 100000 in
set_option maxHeartbeats 4000000 in
theorem rgive_ok (c d : Nat) (T : Tb) (k : Nat) (w : World) (h : RefW w c d T) (hk : k < T.n) (hs : T.s k = 1) : Calls Tryz.prog 118 #[.pointer (some ⟨c, 0, none⟩), .agg #[.int .i64 k, .int .u32 (T.g k)]] w (RGiveV c d (T.gave k) 0 w) := by
  have hal : Below w.heap.size w (w.alloc (.cells #[.int .i64 k, .int .u32 (T.g k)] 193)) := (Below.refl _ w).alloc (Nat.le_refl _) _
  have HW := Lib.hid (h.below hal)
  have HR := Lib.hid (Bk.new w 193 #[.int .i64 k, .int .u32 (T.g k)])
  have HC := Lib.hid (Tb.chk_held hk hs)
  have hn := h.ok.hi
  have hne := h.ne
  have hct := h.ct
  have hdt := h.dt
  have hg1 := h.ok.g1 k hk
  have hgm := h.ok.gm k
  have hok := h.ok.gave k
  have hok2 : Tb.Ok ⟨T.n, put T.s k 2, T.g⟩ := ⟨h.ok.lo, h.ok.hi, fun i => by have := h.ok.st i; simp only [put]; split <;> omega, h.ok.gm, h.ok.g1⟩
  have HB0 := Lib.hid hal
  unfold Tb.gave at hok ⊢
  clear h hs hal
  obtain ⟨y, hy⟩ : ∃ y, T.g k = y := ⟨_, rfl⟩
  rw [hy] at HR HW HC HB0 hg1 hgm hok ⊢
  by_cases hl : y = 4294967295
  · rw [if_pos hl] at hok ⊢
    subst hl
    have HOK := Lib.hid hok
    clear hok hok2 hg1 hgm hy
    go_enter Tryz.func118, Tryz.ntmps118
    go_wp2_with fail
    refine (rchk_s c d T k 4294967295 0 _ HW.out HC.out).mono ?_
    rintro e w1 ⟨rfl, hb⟩
    have HW1 := Lib.hid (HW.out.below hb)
    have HR1 := Lib.hid (HR.out.below hb)
    have HB1 := Lib.hid (bel2 HB0.out hb)
    have hr0 : w1.cell? ⟨w.heap.size, 0, none⟩ = some (.int .i64 k) := HR1.out.cell 0
    have hr1 : w1.cell? ⟨w.heap.size, 1, none⟩ = some (.int .u32 4294967295) := HR1.out.cell 1
    obtain ⟨cap, hc, hcap, hcm⟩ := HW1.out.c0
    have hcs := HW1.out.cs hk
    have hfs := HW1.out.fz (k * 2)
    clear hb HW HR
    go_wp2_with fail
    refine (rnext_last _).mono ?_
    rintro e w' ⟨rfl, rfl⟩
    go_wp2
    go_region
    all_goals
      go_wp2
      go_ret
      exact ⟨rfl, (HW1.out.put_s hk HOK.out).same rfl rfl, ((Kept.of_below HB1.out).put1 (g := d) _ _).drew⟩
  · rw [if_neg hl] at hok ⊢
    have HOK := Lib.hid hok
    have HOK2 := Lib.hid hok2
    have h1 : (1 : Int) ≤ y := by omega
    have h2 : (y : Int) < 4294967295 := by omega
    clear hok hok2 hg1 hgm hy hl
    go_enter Tryz.func118, Tryz.ntmps118
    go_wp2_with fail
    refine (rchk_s c d T k y 0 _ HW.out HC.out).mono ?_
    rintro e w1 ⟨rfl, hb⟩
    have HW1 := Lib.hid (HW.out.below hb)
    have HR1 := Lib.hid (HR.out.below hb)
    have HB1 := Lib.hid (bel2 HB0.out hb)
    have hr0 : w1.cell? ⟨w.heap.size, 0, none⟩ = some (.int .i64 k) := HR1.out.cell 0
    have hr1 : w1.cell? ⟨w.heap.size, 1, none⟩ = some (.int .u32 y) := HR1.out.cell 1
    obtain ⟨cap, hc, hcap, hcm⟩ := HW1.out.c0
    have hcs := HW1.out.cs hk
    have hcg := HW1.out.cg hk
    have hfs := HW1.out.fz (k * 2)
    have hfg := HW1.out.fz (k * 2 + 1)
    clear hb HW HR
    go_wp2_with fail
    refine (rnext_yes y _ h1 h2).mono ?_
    rintro e w' ⟨rfl, rfl⟩
    go_wp2
    go_region
    all_goals
      go_wp2
      go_region
      all_goals
        go_wp2
        go_ret
        exact ⟨rfl, (gaveW HW1.out hk HOK2.out HOK.out).same rfl rfl, ((((Kept.of_below HB1.out).put1 (g := d) _ _).put1 _ _).put1 _ _).drewN 2⟩
theorem rgive_any (b d : Nat) (T : Tb) (i g : Int) (w : World) (h : RefW w b d T) : Calls Tryz.prog 118 #[.pointer (some ⟨b, 0, none⟩), .agg #[.int .i64 i, .int .u32 g]] w (RGiveV b d (T.given i g) (T.chk i g) w) := by
  unfold Tb.given
  rcases chk_cases T i g with ⟨h1, h2⟩ | ⟨k, rfl, h1, h3, h2⟩ | ⟨k, rfl, h1, h3, h4, h2⟩
  · rw [h2]; exact (rgive_no b d T i g 3 w h h2 (by decide)).mono fun e w' ⟨k1, k2⟩ => ⟨k1, h.below k2, Kept.of_below k2⟩
  · rw [h2]; exact (rgive_no b d T k g 7 w h h2 (by decide)).mono fun e w' ⟨k1, k2⟩ => ⟨k1, h.below k2, Kept.of_below k2⟩
  · rw [h2]; subst h4; exact rgive_ok b d T k w h h1 h3
end Go.Proofs.YtpinmiplefidpaaGreatDoor.SR

namespace Go.Proofs.YtpinmiplefidpaaGreatDoor.LS
open Go.RowKit

theorem bal (w : World) (o : Obj) : Below w.heap.size w (w.alloc o) := (Below.refl _ _).alloc (Nat.le_refl _) _
open Go.Proofs.YtpinmiplefidpaaGreatDoor.SR

/-- The document's desk: its struct's block q, its table at c and d, its times' block g. -/
structure QW (w : World) (q c d g : Nat) (D : Dk) : Prop where
  ok : D.Ok
  tab : RefW w c d D.t
  at_ : ∃ (cap : Nat) (cur : Array Value), Bk w q 182 #[.bool true, .pointer (some ⟨c, 0, none⟩), .slice (some ⟨g, 0, none⟩) D.t.n cap] ∧ Bk w g 2 cur ∧ cur.size = cap ∧ D.t.n ≤ cap ∧ cap ≤ maxLen ∧ ∀ i, i < D.t.n → cur[i]? = some (.int .i64 (D.u i))
def QFt (q c d g z : Nat) : Prop := z = q ∨ z = c ∨ z = d ∨ z = g
section
variable {w w' : World} {q c d g : Nat} {D : Dk}
theorem QW.qb (h : QW w q c d g D) : ∃ cs, Bk w q 182 cs := by obtain ⟨_, _, h1, _⟩ := h.at_; exact ⟨_, h1⟩
theorem QW.gb (h : QW w q c d g D) : ∃ cs, Bk w g 2 cs := by obtain ⟨_, _, _, h1, _⟩ := h.at_; exact ⟨_, h1⟩
theorem _root_.Go.Proofs.YtpinmiplefidpaaGreatDoor.RefW.cb {T : Tb} (h : RefW w c d T) : ∃ cs, Bk w c 213 cs := by obtain ⟨_, _, h1, _⟩ := h.at_; exact ⟨_, h1⟩
theorem _root_.Go.Proofs.YtpinmiplefidpaaGreatDoor.RefW.db {T : Tb} (h : RefW w c d T) : ∃ cs, Bk w d 215 cs := by obtain ⟨_, _, _, h1, _⟩ := h.at_; exact ⟨_, h1⟩
theorem QW.foot_lt (h : QW w q c d g D) {z : Nat} (hz : QFt q c d g z) : z < w.heap.size := by
  rcases hz with rfl | rfl | rfl | rfl
  · obtain ⟨_, h⟩ := h.qb; exact h.lt
  · exact h.tab.ct
  · exact h.tab.dt
  · obtain ⟨_, h⟩ := h.gb; exact h.lt
theorem QW.off {A : Nat} {t : TypeId} {cs : Array Value} (h : QW w q c d g D) (hA : Bk w A t cs) (h1 : t ≠ 182 := by decide) (h2 : t ≠ 213 := by decide) (h3 : t ≠ 215 := by decide) (h4 : t ≠ 2 := by decide) : ¬ QFt q c d g A := by
  rintro (rfl | rfl | rfl | rfl)
  · obtain ⟨_, hb⟩ := h.qb; exact h1 (hA.uniq hb).1
  · obtain ⟨_, hb⟩ := h.tab.cb; exact h2 (hA.uniq hb).1
  · obtain ⟨_, hb⟩ := h.tab.db; exact h3 (hA.uniq hb).1
  · obtain ⟨_, hb⟩ := h.gb; exact h4 (hA.uniq hb).1
theorem QW.same (h : QW w q c d g D) (e : ∀ z, QFt q c d g z → w'.heap[z]? = w.heap[z]?) : QW w' q c d g D :=
  ⟨h.ok, h.tab.same (e c (.inr (.inl rfl))) (e d (.inr (.inr (.inl rfl)))), by
    obtain ⟨cap, cur, h1, h2, hr⟩ := h.at_
    exact ⟨cap, cur, h1.same (e q (.inl rfl)), h2.same (e g (.inr (.inr (.inr rfl)))), hr⟩⟩
theorem QW.kept {S : Nat → Prop} (h : QW w q c d g D) (k : Kept S w w') (hs : ∀ z, QFt q c d g z → ¬ S z) : QW w' q c d g D := h.same fun z hz => k.block z (h.foot_lt hz) (hs z hz)
theorem QW.below (h : QW w q c d g D) (k : Below w.heap.size w w') : QW w' q c d g D := h.same fun z hz => k.block z (h.foot_lt hz)
theorem QW.cells (h : QW w q c d g D) : ∃ cap, w.cell? ⟨q, 0, none⟩ = some (.bool true) ∧ w.cell? ⟨q, 1, none⟩ = some (.pointer (some ⟨c, 0, none⟩)) ∧ w.cell? ⟨q, 2, none⟩ = some (.slice (some ⟨g, 0, none⟩) D.t.n cap) ∧ D.t.n ≤ cap ∧ cap ≤ 9223372036854775807 := by
  obtain ⟨cap, _, h1, _, _, h2, h3, _⟩ := h.at_; exact ⟨cap, h1.cell 0, h1.cell 1, h1.cell 2, h2, by unfold maxLen at h3; omega⟩
theorem QW.ci (h : QW w q c d g D) {i : Nat} (hi : i < D.t.n) : w.cell? ⟨g, i, none⟩ = some (.int .i64 (D.u i)) ∧ w.frozen? ⟨g, i, none⟩ = false ∧ g < w.heap.size := by
  obtain ⟨_, cur, _, h1, _, _, _, h2⟩ := h.at_
  exact ⟨by rw [h1.cell]; exact h2 i hi, h1.frozen i, h1.lt⟩
end
set_option maxRecDepth 100000 in
theorem evalid_yes (q : Nat) (w : World) (h : w.cell? ⟨q, 0, none⟩ = some (.bool true)) : Calls Tryz.prog 131 #[.pointer (some ⟨q, 0, none⟩)] w fun e w' => e = .returned (.bool true) ∧ w = w' := by
  go_enter Tryz.func131, Tryz.ntmps131
  go_wp2
  go_ret
  exact ⟨rfl, rfl⟩
set_option maxRecDepth 100000 in
theorem evalid_nil (w : World) : Calls Tryz.prog 131 #[.pointer none] w fun e w' => e = .returned (.bool false) ∧ w = w' := by
  go_enter Tryz.func131, Tryz.ntmps131
  go_wp2
  go_ret
  exact ⟨rfl, rfl⟩
set_option maxRecDepth 100000 in
theorem espan_yes (x : Int) (w : World) (h : IsSpan x) : Calls Tryz.prog 124 #[.int .i64 x] w fun e w' => e = .returned (.bool true) ∧ w = w' := by
  obtain ⟨h1, h2⟩ := h
  go_enter Tryz.func124, Tryz.ntmps124
  go_wp2
  go_ret
  exact ⟨by simp, rfl⟩
set_option maxRecDepth 100000 in
theorem espan_no (x : Int) (w : World) (h : ¬ IsSpan x) : Calls Tryz.prog 124 #[.int .i64 x] w fun e w' => e = .returned (.bool false) ∧ w = w' := by
  unfold IsSpan at h
  by_cases h1 : x < 1
  · clear h
    go_enter Tryz.func124, Tryz.ntmps124
    go_wp2
    go_ret
    exact ⟨rfl, rfl⟩
  · have h2 : 1048576 < x := by omega
    have h3 : 1 ≤ x := by omega
    clear h h1
    go_enter Tryz.func124, Tryz.ntmps124
    go_wp2
    go_ret
    exact ⟨by simp; omega, rfl⟩
theorem espan_is (x : Int) (b : Bool) (w : World) (h : decide (IsSpan x) = b) : Calls Tryz.prog 124 #[.int .i64 x] w fun e w' => e = .returned (.bool b) ∧ w = w' := by
  cases b with
  | true => exact espan_yes x w (by simpa using h)
  | false => exact espan_no x w (by simpa using h)
set_option maxRecDepth 100000 in
theorem etime_yes (x : Int) (w : World) (h : IsTime x) : Calls Tryz.prog 125 #[.int .i64 x] w fun e w' => e = .returned (.bool true) ∧ w = w' := by
  obtain ⟨h1, h2⟩ := h
  go_enter Tryz.func125, Tryz.ntmps125
  go_wp2
  go_ret
  exact ⟨by simp, rfl⟩
set_option maxRecDepth 100000 in
theorem etime_no (x : Int) (w : World) (h : ¬ IsTime x) : Calls Tryz.prog 125 #[.int .i64 x] w fun e w' => e = .returned (.bool false) ∧ w = w' := by
  unfold IsTime at h
  by_cases h1 : x < 0
  · clear h
    go_enter Tryz.func125, Tryz.ntmps125
    go_wp2
    go_ret
    exact ⟨rfl, rfl⟩
  · have h2 : 1099511627776 < x := by omega
    have h3 : 0 ≤ x := by omega
    clear h h1
    go_enter Tryz.func125, Tryz.ntmps125
    go_wp2
    go_ret
    exact ⟨by simp; omega, rfl⟩
theorem etime_is (x : Int) (b : Bool) (w : World) (h : decide (IsTime x) = b) : Calls Tryz.prog 125 #[.int .i64 x] w fun e w' => e = .returned (.bool b) ∧ w = w' := by
  cases b with
  | true => exact etime_yes x w (by simpa using h)
  | false => exact etime_no x w (by simpa using h)
set_option maxRecDepth 100000 in
theorem echeck_nil (x y z : Int) (r : Bool) (w : World) : Calls Tryz.prog 117 #[.pointer none, .agg #[.int .i64 x, .int .i64 y, .int .u32 z], .bool r] w fun e w' => e = .returned (.int .i64 1) ∧ Below w.heap.size w w' := by
  go_enter Tryz.func117, Tryz.ntmps117
  go_wp2_with (go_at_call 131; refine (evalid_nil _).mono ?_; rintro e w' ⟨rfl, rfl⟩)
  go_ret
  exact ⟨rfl, bal _ _⟩
set_option maxRecDepth 100000 in
theorem echeck_wrong (q : Nat) (x y z : Int) (w : World) (h : w.cell? ⟨q, 0, none⟩ = some (.bool true)) : Calls Tryz.prog 117 #[.pointer (some ⟨q, 0, none⟩), .agg #[.int .i64 x, .int .i64 y, .int .u32 z], .bool true] w fun e w' => e = .returned (.int .i64 2) ∧ Below w.heap.size w w' := by
  go_enter Tryz.func117, Tryz.ntmps117
  go_wp2_with (go_at_call 131; refine (evalid_yes q _ (cell_keeps (bal _ _) h)).mono ?_; rintro e w' ⟨rfl, rfl⟩)
  go_ret
  exact ⟨rfl, bal _ _⟩
set_option maxHeartbeats 1000000 in
set_option maxRecDepth 100000 in
theorem echeck_bad (q : Nat) (x y z : Int) (hr : RgO x y z) (hf : ¬ IsLease x y z) (w : World) (h : w.cell? ⟨q, 0, none⟩ = some (.bool true)) : Calls Tryz.prog 117 #[.pointer (some ⟨q, 0, none⟩), .agg #[.int .i64 x, .int .i64 y, .int .u32 z], .bool false] w fun e w' => e = .returned (.int .i64 2) ∧ Below w.heap.size w w' := by
  by_cases hx : x = 3
  · subst hx
    have hb : Bad 64 3 y z := by
      rcases not_lease hf hr with hb | ⟨hk, k', i', g', e, _⟩
      · exact hb
      · omega
    have HR := Lib.hid hr
    have HH := Lib.hid hb
    clear hr hf hb
    go_enter Tryz.func117, Tryz.ntmps117
    go_wp2_with (first
      | (go_at_call 131; refine (evalid_yes q _ (cell_keeps (bal _ _) h)).mono ?_; rintro e w' ⟨rfl, rfl⟩)
      | (go_at_call 71; refine (rochk_bad _ _ _ HR.out HH.out _).mono ?_; rintro e w2 ⟨rfl, hb2⟩; have HB := Lib.hid hb2; clear hb2))
    go_ret
    exact ⟨rfl, bel2 (bal _ _) HB.out⟩
  · have hx2 : (x != 3) = true := by simpa using hx
    clear hr hf hx
    go_enter Tryz.func117, Tryz.ntmps117
    go_wp2_with (go_at_call 131; refine (evalid_yes q _ (cell_keeps (bal _ _) h)).mono ?_; rintro e w' ⟨rfl, rfl⟩)
    go_ret
    exact ⟨rfl, bal _ _⟩
set_option maxHeartbeats 1000000 in
set_option maxRecDepth 100000 in
theorem echeck_is (q c d g : Nat) (D : Dk) (x y z E : Int) (hr : RgO x y z) (hf : IsLease x y z) (hE : D.t.chk y z = E) (w : World) (h : QW w q c d g D) : Calls Tryz.prog 117 #[.pointer (some ⟨q, 0, none⟩), .agg #[.int .i64 x, .int .i64 y, .int .u32 z], .bool false] w fun e w' => e = .returned (.int .i64 E) ∧ Below w.heap.size w w' := by
  obtain ⟨rfl, i', g', rfl, rfl, ho⟩ := hf.okn hr
  obtain ⟨cap, c0, c1, c2, _, _⟩ := h.cells
  have CK : Hid (∀ W, Below w.heap.size w W → Calls Tryz.prog 138 #[.pointer (some ⟨c, 0, none⟩), .agg #[.int .i64 i', .int .u32 g']] W fun e w' => e = .returned (.int .i64 E) ∧ Below W.heap.size W w') := fun W hW => rchk_s c d D.t i' g' E W (h.below hW).tab hE
  have HC : Hid (∀ W, Below w.heap.size w W → W.cell? ⟨q, 1, none⟩ = some (.pointer (some ⟨c, 0, none⟩))) := fun W hW => by obtain ⟨_, _, h1, _⟩ := (h.below hW).cells; exact h1
  have HH := Lib.hid ho
  clear hr hf ho h hE c1 c2
  go_enter Tryz.func117, Tryz.ntmps117
  go_wp2_with (first
    | (go_at_call 131; refine (evalid_yes q _ (cell_keeps (bal _ _) c0)).mono ?_; rintro e w' ⟨rfl, rfl⟩)
    | (go_at_call 71; refine (rochk_ok _ _ _ HH.out _).mono ?_; rintro e w2 ⟨rfl, hb2⟩; have HB := Lib.hid (bel2 (bal _ _) hb2); obtain ⟨q0, q1, q2, hl2⟩ := box_o hb2; have hc3 := HC.out w2 HB.out; clear hb2))
  have hbl : q < w2.heap.size := World.block_lt_of_cell? _ _ hc3
  go_region_held3 (fun W => W.cell? ⟨q, 1, none⟩ = some (.pointer (some ⟨c, 0, none⟩)) ∧ W.cell? ⟨w.heap.size, 1, none⟩ = some (.int .i64 i') ∧ W.cell? ⟨w.heap.size, 2, none⟩ = some (.int .u32 g')) (first | (with_reducible exact hz1) | (exact ⟨hc3, q1, q2⟩)) (first
    | (go_at_call 138; (with_reducible refine (CK.out _ (bel2 HB.out (by exact ⟨rfl, rfl, rfl, Nat.le_refl _, fun _ _ => rfl⟩))).mono ?_); rintro e w5 ⟨rfl, hb5⟩; have HB5 := Lib.hid (bel2 (bel2 HB.out (by exact ⟨rfl, rfl, rfl, Nat.le_refl _, fun _ _ => rfl⟩)) hb5); have hz1 := And.intro (cell_keeps hb5 hc3) (And.intro (cell_keeps hb5 q1) (cell_keeps hb5 q2)); clear hb5))
  all_goals
    go_wp2
    go_ret
    exact ⟨rfl, HB5.out⟩
/-- check. -/
theorem echeck_ok (q c d g : Nat) (D : Dk) (x y z : Int) (hr : RgO x y z) (w : World) (h : QW w q c d g D) : Calls Tryz.prog 117 #[.pointer (some ⟨q, 0, none⟩), .agg #[.int .i64 x, .int .i64 y, .int .u32 z], .bool false] w fun e w' => e = .returned (.int .i64 (D.chk x y z)) ∧ Below w.heap.size w w' := by
  obtain ⟨cap, c0, _⟩ := h.cells
  by_cases hf : IsLease x y z
  · unfold Dk.chk; rw [if_pos hf]; exact echeck_is q c d g D x y z _ hr hf rfl w h
  · unfold Dk.chk; rw [if_neg hf]; exact echeck_bad q x y z hr hf w c0
end Go.Proofs.YtpinmiplefidpaaGreatDoor.LS

namespace Go.Proofs.YtpinmiplefidpaaGreatDoor.LS
open Go.RowKit
open Go.Proofs.YtpinmiplefidpaaGreatDoor.SR

set_option maxRecDepth 100000 in
theorem euntil_nil (x y z : Int) (w : World) : Calls Tryz.prog 93 #[.pointer none, .agg #[.int .i64 x, .int .i64 y, .int .u32 z]] w fun e w' => e = .returned (.tuple #[.int .i64 0, .int .i64 1]) ∧ Below w.heap.size w w' := by
  go_enter Tryz.func93, Tryz.ntmps93
  go_wp2_with (go_at_call 117; refine (echeck_nil _ _ _ _ _).mono ?_; rintro e w2 ⟨rfl, hb2⟩; have HB := Lib.hid (bel2 (bal _ _) hb2); clear hb2)
  go_ret2
  exact ⟨rfl, HB.out⟩
set_option maxHeartbeats 1000000 in
set_option maxRecDepth 100000 in
theorem euntil_ok (q c d g : Nat) (D : Dk) (x y z : Int) (hr : RgO x y z) (w : World) (h : QW w q c d g D) : Calls Tryz.prog 93 #[.pointer (some ⟨q, 0, none⟩), .agg #[.int .i64 x, .int .i64 y, .int .u32 z]] w fun e w' => e = .returned (.tuple #[.int .i64 (D.til x y z), .int .i64 (D.chk x y z)]) ∧ Below w.heap.size w w' := by
  have CK : Hid (∀ W, Below w.heap.size w W → Calls Tryz.prog 117 #[.pointer (some ⟨q, 0, none⟩), .agg #[.int .i64 x, .int .i64 y, .int .u32 z], .bool false] W fun e w' => e = .returned (.int .i64 (D.chk x y z)) ∧ Below W.heap.size W w') := fun W hW => echeck_ok q c d g D x y z hr W (h.below hW)
  by_cases h0 : D.chk x y z = 0
  · obtain ⟨rfl, i, rfl, hi, hs, rfl⟩ := Dk.chk_is h0
    have e1 : D.til 3 i (D.t.g i) = D.u i := by unfold Dk.til; rw [if_pos h0, Int.toNat_natCast]
    rw [h0] at CK ⊢
    rw [e1]
    have HC : Hid (∀ W, Below w.heap.size w W → ∃ cap, W.cell? ⟨q, 2, none⟩ = some (.slice (some ⟨g, 0, none⟩) D.t.n cap) ∧ D.t.n ≤ cap ∧ cap ≤ 9223372036854775807 ∧ q < W.heap.size ∧ W.cell? ⟨g, i, none⟩ = some (.int .i64 (D.u i)) ∧ g < W.heap.size) := fun W hW => by
      obtain ⟨cap, _, _, h1, h2, h3⟩ := (h.below hW).cells
      obtain ⟨h4, _, h5⟩ := (h.below hW).ci hi
      exact ⟨cap, h1, h2, h3, World.block_lt_of_cell? _ _ h1, h4, h5⟩
    have hiz : (i : Int) < D.t.n := by omega
    clear h hr hs h0 e1
    generalize D.t.n = n at *
    generalize D.t.g i = z at *
    generalize D.u i = uu at *
    go_enter Tryz.func93, Tryz.ntmps93
    go_wp2_with (go_at_call 117; refine (CK.out _ (bal _ _)).mono ?_; rintro e w2 ⟨rfl, hb2⟩; have HB := Lib.hid (bel2 (bal _ _) hb2); obtain ⟨q0, q1, q2, hl2⟩ := box_o hb2; obtain ⟨cap, c2, c3, c4, c5, c6, c7⟩ := HC.out w2 HB.out; clear hb2)
    go_quiet (fail)
    go_wp2
    go_ret2
    exact ⟨rfl, bel_drewN HB.out _⟩
  · have e1 : D.til x y z = 0 := by unfold Dk.til; rw [if_neg h0]
    rw [e1]
    generalize D.chk x y z = E at *
    have h1 : (E != 0) = true := by simpa using h0
    clear h hr h0 e1
    go_enter Tryz.func93, Tryz.ntmps93
    go_wp2_with (go_at_call 117; refine (CK.out _ (bal _ _)).mono ?_; rintro e w2 ⟨rfl, hb2⟩; have HB := Lib.hid (bel2 (bal _ _) hb2); clear hb2)
    go_ret2
    exact ⟨rfl, HB.out⟩

/-- check, told what is wrong. -/
theorem echeck_any (q c d g : Nat) (D : Dk) (x y z E : Int) (r : Bool) (hr : RgO x y z) (w : World) (h : QW w q c d g D) (e : (if r = true then 2 else D.chk x y z) = E) : Calls Tryz.prog 117 #[.pointer (some ⟨q, 0, none⟩), .agg #[.int .i64 x, .int .i64 y, .int .u32 z], .bool r] w fun e w' => e = .returned (.int .i64 E) ∧ Below w.heap.size w w' := by
  subst e
  cases r with
  | true => obtain ⟨_, c0, _⟩ := h.cells; exact echeck_wrong q x y z w c0
  | false => exact echeck_ok q c d g D x y z hr w h
end Go.Proofs.YtpinmiplefidpaaGreatDoor.LS

namespace Go.Proofs.YtpinmiplefidpaaGreatDoor.LS
open Go.RowKit
open Go.Proofs.YtpinmiplefidpaaGreatDoor.SR

/-- What a call leaves of the document's desk. -/
def QWV (q c d g : Nat) (U : Dk) (w w' : World) : Prop := Hid (QW w' q c d g U) ∧ Hid (Kept (QFt q c d g) w w')
section
variable {w w' : World} {q c d g : Nat} {D : Dk}
theorem QW.ne_d (h : QW w q c d g D) : q ≠ d ∧ g ≠ d := by
  obtain ⟨_, hq⟩ := h.qb
  obtain ⟨_, hg⟩ := h.gb
  obtain ⟨_, hd⟩ := h.tab.db
  exact ⟨by rintro rfl; exact absurd (hq.uniq hd).1 (by decide), by rintro rfl; exact absurd (hg.uniq hd).1 (by decide)⟩
theorem QW.ne_g (h : QW w q c d g D) : q ≠ g ∧ c ≠ g ∧ d ≠ g := by
  obtain ⟨_, hq⟩ := h.qb
  obtain ⟨_, hg⟩ := h.gb
  obtain ⟨_, hd⟩ := h.tab.db
  obtain ⟨_, hc⟩ := h.tab.cb
  exact ⟨by rintro rfl; exact absurd (hq.uniq hg).1 (by decide), by rintro rfl; exact absurd (hc.uniq hg).1 (by decide), by rintro rfl; exact absurd (hd.uniq hg).1 (by decide)⟩
theorem QW.tabbed {T : Tb} (h : QW w q c d g D) (k : Kept (· = d) w w') (ht : RefW w' c d T) (hn : T.n = D.t.n) (ho : Dk.Ok ⟨T, D.u⟩) : QW w' q c d g ⟨T, D.u⟩ := by
  obtain ⟨n1, n2⟩ := h.ne_d
  obtain ⟨cap, cur, h1, h2, h3, h4, h5, h6⟩ := h.at_
  refine ⟨ho, ht, cap, cur, ?_, h2.kept k n2, h3, by show T.n ≤ cap; rw [hn]; exact h4, h5, fun i hi => h6 i (by rw [← hn]; exact hi)⟩
  show Bk w' q _ #[_, _, .slice _ T.n cap]
  rw [hn]
  exact h1.kept k n1
/-- A time is stored. -/
theorem QW.put {i y : Nat} (h : QW w q c d g D) (hi : i < D.t.n) (hy : y ≤ 1099511627776) : QW (w.setCell ⟨g, i, none⟩ (.int .i64 y)) q c d g (D.until i y) ∧ Kept (· = g) w (w.setCell ⟨g, i, none⟩ (.int .i64 y)) := by
  obtain ⟨n1, n2, n3⟩ := h.ne_g
  have k : Kept (· = g) w (w.setCell ⟨g, i, none⟩ (.int .i64 y)) := (Kept.refl _ w).put1 i _
  obtain ⟨cap, cur, h1, h2, h3, h4, h5, h6⟩ := h.at_
  refine ⟨⟨h.ok.until i hy, h.tab.kept k n2 n3, cap, _, h1.kept k n1, h2.put i _, by simpa using h3, h4, h5, fun j hj => ?_⟩, k⟩
  rw [Array.getElem?_setIfInBounds]
  by_cases e : i = j
  · subst e
    rw [if_pos rfl, if_pos (by omega)]
    simp [Dk.until, put_same]
  · rw [if_neg e, h6 j hj]
    simp [Dk.until, put_other (fun h => e h.symm)]
theorem QWV.of_below (h : QW w q c d g D) (k : Below w.heap.size w w') : QWV q c d g D w w' := ⟨h.below k, Kept.of_below k⟩
end
set_option maxRecDepth 100000 in
theorem eret_nil (x y z : Int) (w : World) : Calls Tryz.prog 76 #[.pointer none, .agg #[.int .i64 x, .int .i64 y, .int .u32 z]] w fun e w' => e = .returned (.int .i64 1) ∧ Below w.heap.size w w' := by
  go_enter Tryz.func76, Tryz.ntmps76
  go_wp2_with (go_at_call 117; refine (echeck_nil _ _ _ _ _).mono ?_; rintro e w2 ⟨rfl, hb2⟩; have HB := Lib.hid (bel2 (bal _ _) hb2); clear hb2)
  go_ret
  exact ⟨rfl, HB.out⟩
set_option maxHeartbeats 1000000 in
set_option maxRecDepth 100000 in
theorem eret_ok (q c d g : Nat) (D : Dk) (x y z : Int) (hr : RgO x y z) (w : World) (h : QW w q c d g D) : Calls Tryz.prog 76 #[.pointer (some ⟨q, 0, none⟩), .agg #[.int .i64 x, .int .i64 y, .int .u32 z]] w fun e w' => e = .returned (.int .i64 (D.chk x y z)) ∧ QWV q c d g (D.ret x y z) w w' := by
  have CK : Hid (∀ W, Below w.heap.size w W → Calls Tryz.prog 117 #[.pointer (some ⟨q, 0, none⟩), .agg #[.int .i64 x, .int .i64 y, .int .u32 z], .bool false] W fun e w' => e = .returned (.int .i64 (D.chk x y z)) ∧ Below W.heap.size W w') := fun W hW => echeck_ok q c d g D x y z hr W (h.below hW)
  by_cases h0 : D.chk x y z = 0
  · have e1 : D.ret x y z = D.give y.toNat := if_pos h0
    obtain ⟨rfl, i, rfl, hi, hs, rfl⟩ := Dk.chk_is h0
    rw [Int.toNat_natCast] at e1
    rw [h0] at CK ⊢
    rw [e1]
    have HC : Hid (∀ W, Below w.heap.size w W → W.cell? ⟨q, 1, none⟩ = some (.pointer (some ⟨c, 0, none⟩)) ∧ q < W.heap.size) := fun W hW => by
      obtain ⟨_, _, h1, _⟩ := (h.below hW).cells
      exact ⟨h1, World.block_lt_of_cell? _ _ h1⟩
    have GV : Hid (∀ W, Below w.heap.size w W → Calls Tryz.prog 118 #[.pointer (some ⟨c, 0, none⟩), .agg #[.int .i64 i, .int .u32 (D.t.g i)]] W fun e w' => e = .returned (.int .i64 0) ∧ Hid (QWV q c d g (D.give i) w w') ∧ Hid (∀ A cs, Bk W A 25 cs → Bk w' A 25 cs)) := fun W hW =>
      (rgive_ok c d D.t i W (h.below hW).tab hi hs).mono fun _ w' ⟨e, h1, h2⟩ => ⟨e, ⟨(h.below hW).tabbed h2 h1 (Tb.gave_n _ _) (h.ok.give i), (Kept.of_below hW).trans (h2.mono fun _ _ e => .inr (.inr (.inl e)))⟩, fun A cs hA => hA.kept h2 (by
        obtain ⟨_, hd⟩ := (h.below hW).tab.db
        rintro rfl; exact absurd (hA.uniq hd).1 (by decide))⟩
    have hnd := h.ne_d.1
    clear h hr hs hi h0 e1
    generalize D.t.g i = z at *
    go_enter Tryz.func76, Tryz.ntmps76
    go_wp2_with (go_at_call 117; refine (CK.out _ (bal _ _)).mono ?_; rintro e w2 ⟨rfl, hb2⟩; have HB := Lib.hid (bel2 (bal _ _) hb2); obtain ⟨q0, q1, q2, hl2⟩ := box_o hb2; have OB := Lib.hid ((Bk.new w 25 #[.int .i64 3, .int .i64 i, .int .u32 z]).below hb2); obtain ⟨c2, c3⟩ := HC.out w2 HB.out; clear hb2)
    go_region_held3 (fun W => W.cell? ⟨q, 1, none⟩ = some (.pointer (some ⟨c, 0, none⟩)) ∧ W.cell? ⟨w.heap.size, 1, none⟩ = some (.int .i64 i) ∧ W.cell? ⟨w.heap.size, 2, none⟩ = some (.int .u32 z)) (first | (with_reducible exact hz1) | (exact ⟨c2, q1, q2⟩)) (first
      | (go_at_call 118; (with_reducible refine (GV.out _ (bel2 HB.out (by exact ⟨rfl, rfl, rfl, Nat.le_refl _, fun _ _ => rfl⟩))).mono ?_); rintro e w5 ⟨rfl, HQ, HK⟩; obtain ⟨y1, y2, y3⟩ := cells3 (HK.out _ _ (OB.out.below (by exact ⟨rfl, rfl, rfl, Nat.le_refl _, fun _ _ => rfl⟩))); obtain ⟨_, _, y4, _⟩ := HQ.out.1.out.cells; have hz1 := And.intro y4 (And.intro y2 y3)))
    all_goals
      go_wp2
      go_ret
      exact ⟨rfl, HQ.out⟩
  · have e1 : D.ret x y z = D := if_neg h0
    rw [e1]
    have HQ := Lib.hid h
    generalize D.chk x y z = E at *
    have h1 : (E != 0) = true := by simpa using h0
    clear h hr h0 e1
    go_enter Tryz.func76, Tryz.ntmps76
    go_wp2_with (go_at_call 117; refine (CK.out _ (bal _ _)).mono ?_; rintro e w2 ⟨rfl, hb2⟩; have HB := Lib.hid (bel2 (bal _ _) hb2); clear hb2)
    go_ret
    exact ⟨rfl, QWV.of_below HQ.out HB.out⟩
end Go.Proofs.YtpinmiplefidpaaGreatDoor.LS

namespace Go.Proofs.YtpinmiplefidpaaGreatDoor.LS
open Go.RowKit
open Go.Proofs.YtpinmiplefidpaaGreatDoor.SR

set_option maxRecDepth 100000 in
set_option maxHeartbeats 1000000 in
theorem erenew_a (p : Option Addr) (x y z t now E : Int) (w : World) (hs : ¬ IsSpan t)  (h0 : E ≠ 0) (CKh : ∀ W, Below w.heap.size w W → Calls Tryz.prog 117 #[.pointer p, .agg #[.int .i64 x, .int .i64 y, .int .u32 z], .bool true] W fun e w' => e = .returned (.int .i64 E) ∧ Below W.heap.size W w') : Calls Tryz.prog 82 #[.pointer p, .agg #[.int .i64 x, .int .i64 y, .int .u32 z], .int .i64 t, .int .i64 now] w fun e w' => e = .returned (.int .i64 E) ∧ Below w.heap.size w w' := by
  obtain ⟨w1, hw1⟩ : ∃ w1, w.alloc (.cells #[.int .i64 x, .int .i64 y, .int .u32 z] 25) = w1 := ⟨_, rfl⟩
  have HW := Lib.hid hw1
  have b0 : Bk w1 w.heap.size 25 #[.int .i64 x, .int .i64 y, .int .u32 z] := hw1 ▸ Bk.new w _ _
  have B1 : Hid (Below w.heap.size w w1) := hw1 ▸ bal _ _
  obtain ⟨q0, q1, q2, q3⟩ := ob_cells b0
  have SP : Hid (∀ W, Calls Tryz.prog 124 #[.int .i64 t] W fun e w' => e = .returned (.bool false) ∧ W = w') := fun W => espan_is t false W (by simpa using hs)
  have CK := Lib.hid CKh
  have h1 : (E != 0) = true := by simpa using h0
  clear CKh hs b0 hw1 h0
  have SP2 : Hid (Calls Tryz.prog 124 #[.int .i64 t] w1.drew fun e w' => e = .returned (.bool false) ∧ w' = w1.drew) := (SP.out _).mono fun _ _ h => ⟨h.1, h.2.symm⟩
  go_enter Tryz.func82, Tryz.ntmps82
  go_wp2
  rw [HW.out]
  go_still_tail 10, (by kernel_rfl)
  still_call SP2.out
  repeat still_step
  refine wpStill_nil ?_
  go_wp2_with (go_at_call 117; (with_reducible refine (CK.out _ (bel2 B1.out (by exact ⟨rfl, rfl, rfl, Nat.le_refl _, fun _ _ => rfl⟩))).mono ?_); rintro e w5 ⟨rfl, hb5⟩; have HB5 := Lib.hid (bel2 (bel2 B1.out (by exact ⟨rfl, rfl, rfl, Nat.le_refl _, fun _ _ => rfl⟩)) hb5); clear hb5)
  go_ret
  exact ⟨rfl, HB5.out⟩
set_option maxRecDepth 100000 in
set_option maxHeartbeats 1000000 in
theorem erenew_b (p : Option Addr) (x y z t now E : Int) (w : World) (hs : IsSpan t) (ht : ¬ IsTime now) (h0 : E ≠ 0) (CKh : ∀ W, Below w.heap.size w W → Calls Tryz.prog 117 #[.pointer p, .agg #[.int .i64 x, .int .i64 y, .int .u32 z], .bool true] W fun e w' => e = .returned (.int .i64 E) ∧ Below W.heap.size W w') : Calls Tryz.prog 82 #[.pointer p, .agg #[.int .i64 x, .int .i64 y, .int .u32 z], .int .i64 t, .int .i64 now] w fun e w' => e = .returned (.int .i64 E) ∧ Below w.heap.size w w' := by
  obtain ⟨w1, hw1⟩ : ∃ w1, w.alloc (.cells #[.int .i64 x, .int .i64 y, .int .u32 z] 25) = w1 := ⟨_, rfl⟩
  have HW := Lib.hid hw1
  have b0 : Bk w1 w.heap.size 25 #[.int .i64 x, .int .i64 y, .int .u32 z] := hw1 ▸ Bk.new w _ _
  have B1 : Hid (Below w.heap.size w w1) := hw1 ▸ bal _ _
  obtain ⟨q0, q1, q2, q3⟩ := ob_cells b0
  have SP : Hid (∀ W, Calls Tryz.prog 124 #[.int .i64 t] W fun e w' => e = .returned (.bool true) ∧ W = w') := fun W => espan_is t true W (by simpa using hs)
  have TM : Hid (∀ W, Calls Tryz.prog 125 #[.int .i64 now] W fun e w' => e = .returned (.bool false) ∧ W = w') := fun W => etime_is now false W (by simpa using ht)
  have CK := Lib.hid CKh
  have h1 : (E != 0) = true := by simpa using h0
  clear CKh hs ht b0 hw1 h0
  go_enter Tryz.func82, Tryz.ntmps82
  go_wp2
  rw [HW.out]
  go_region_held3 (fun W => W.cell? ⟨w.heap.size, 0, none⟩ = some (.int .i64 x) ∧ W.cell? ⟨w.heap.size, 1, none⟩ = some (.int .i64 y) ∧ W.cell? ⟨w.heap.size, 2, none⟩ = some (.int .u32 z)) (first | (with_reducible exact hz1) | (exact ⟨q0, q1, q2⟩)) (first
    | (go_at_call 124; refine (SP.out _).mono ?_; rintro e w' ⟨rfl, rfl⟩)
    | (go_at_call 125; refine (TM.out _).mono ?_; rintro e w' ⟨rfl, rfl⟩)
    | (go_at_call 117; (with_reducible refine (CK.out _ (bel2 B1.out (by exact ⟨rfl, rfl, rfl, Nat.le_refl _, fun _ _ => rfl⟩))).mono ?_); rintro e w5 ⟨rfl, hb5⟩; have HB5 := Lib.hid (bel2 (bel2 B1.out (by exact ⟨rfl, rfl, rfl, Nat.le_refl _, fun _ _ => rfl⟩)) hb5); have hz1 := And.intro (cell_keeps hb5 q0) (And.intro (cell_keeps hb5 q1) (cell_keeps hb5 q2)); have hz2 := Nat.lt_of_lt_of_le q3 hb5.size; clear hb5))
  all_goals
    go_wp2
    go_ret
    exact ⟨rfl, HB5.out⟩
set_option maxRecDepth 100000 in
set_option maxHeartbeats 1000000 in
theorem erenew_c (p : Option Addr) (x y z t now E : Int) (w : World) (hs : IsSpan t) (ht : IsTime now) (h0 : E ≠ 0) (CKh : ∀ W, Below w.heap.size w W → Calls Tryz.prog 117 #[.pointer p, .agg #[.int .i64 x, .int .i64 y, .int .u32 z], .bool false] W fun e w' => e = .returned (.int .i64 E) ∧ Below W.heap.size W w') : Calls Tryz.prog 82 #[.pointer p, .agg #[.int .i64 x, .int .i64 y, .int .u32 z], .int .i64 t, .int .i64 now] w fun e w' => e = .returned (.int .i64 E) ∧ Below w.heap.size w w' := by
  obtain ⟨w1, hw1⟩ : ∃ w1, w.alloc (.cells #[.int .i64 x, .int .i64 y, .int .u32 z] 25) = w1 := ⟨_, rfl⟩
  have HW := Lib.hid hw1
  have b0 : Bk w1 w.heap.size 25 #[.int .i64 x, .int .i64 y, .int .u32 z] := hw1 ▸ Bk.new w _ _
  have B1 : Hid (Below w.heap.size w w1) := hw1 ▸ bal _ _
  obtain ⟨q0, q1, q2, q3⟩ := ob_cells b0
  have SP : Hid (∀ W, Calls Tryz.prog 124 #[.int .i64 t] W fun e w' => e = .returned (.bool true) ∧ W = w') := fun W => espan_is t true W (by simpa using hs)
  have TM : Hid (∀ W, Calls Tryz.prog 125 #[.int .i64 now] W fun e w' => e = .returned (.bool true) ∧ W = w') := fun W => etime_is now true W (by simpa using ht)
  have CK := Lib.hid CKh
  have h1 : (E != 0) = true := by simpa using h0
  clear CKh hs ht b0 hw1 h0
  go_enter Tryz.func82, Tryz.ntmps82
  go_wp2
  rw [HW.out]
  go_region_held3 (fun W => W.cell? ⟨w.heap.size, 0, none⟩ = some (.int .i64 x) ∧ W.cell? ⟨w.heap.size, 1, none⟩ = some (.int .i64 y) ∧ W.cell? ⟨w.heap.size, 2, none⟩ = some (.int .u32 z)) (first | (with_reducible exact hz1) | (exact ⟨q0, q1, q2⟩)) (first
    | (go_at_call 124; refine (SP.out _).mono ?_; rintro e w' ⟨rfl, rfl⟩)
    | (go_at_call 125; refine (TM.out _).mono ?_; rintro e w' ⟨rfl, rfl⟩)
    | (go_at_call 117; (with_reducible refine (CK.out _ (bel2 B1.out (by exact ⟨rfl, rfl, rfl, Nat.le_refl _, fun _ _ => rfl⟩))).mono ?_); rintro e w5 ⟨rfl, hb5⟩; have HB5 := Lib.hid (bel2 (bel2 B1.out (by exact ⟨rfl, rfl, rfl, Nat.le_refl _, fun _ _ => rfl⟩)) hb5); have hz1 := And.intro (cell_keeps hb5 q0) (And.intro (cell_keeps hb5 q1) (cell_keeps hb5 q2)); have hz2 := Nat.lt_of_lt_of_le q3 hb5.size; clear hb5))
  all_goals
    go_wp2
    go_ret
    exact ⟨rfl, HB5.out⟩
set_option maxHeartbeats 2000000 in
set_option maxRecDepth 100000 in
theorem erenew_held (q _c _d g i n cap zz uu : Nat) (t now : Int) (w : World) (hs : IsSpan t) (ht : IsTime now) (E : Int) (Q : World → World → Prop) (hin : i < n)
    (CKh : ∀ W, Below w.heap.size w W → Calls Tryz.prog 117 #[.pointer (some ⟨q, 0, none⟩), .agg #[.int .i64 3, .int .i64 i, .int .u32 zz], .bool false] W fun e w' => e = .returned (.int .i64 0) ∧ Below W.heap.size W w')
    (HCh : ∀ W, Below w.heap.size w W → W.cell? ⟨q, 2, none⟩ = some (.slice (some ⟨g, 0, none⟩) n cap) ∧ n ≤ cap ∧ cap ≤ 9223372036854775807 ∧ q < W.heap.size ∧ W.cell? ⟨g, i, none⟩ = some (.int .i64 uu) ∧ W.frozen? ⟨g, i, none⟩ = false ∧ g < W.heap.size)
    (hE : ((uu : Int) ≤ now ∧ E = 8 ∧ ∀ W, Below w.heap.size w W → Q w W) ∨ (now < uu ∧ 1099511627776 < now + t ∧ E = 17 ∧ ∀ W, Below w.heap.size w W → Q w W) ∨ (now < uu ∧ now + t ≤ 1099511627776 ∧ E = 0 ∧ ∀ W, Below w.heap.size w W → Q w (W.setCell ⟨g, i, none⟩ (.int .i64 (now + t))))) :
    Calls Tryz.prog 82 #[.pointer (some ⟨q, 0, none⟩), .agg #[.int .i64 3, .int .i64 i, .int .u32 zz], .int .i64 t, .int .i64 now] w fun e w' => e = .returned (.int .i64 E) ∧ Q w w' := by
  obtain ⟨w1, hw1⟩ : ∃ w1, w.alloc (.cells #[.int .i64 3, .int .i64 i, .int .u32 zz] 25) = w1 := ⟨_, rfl⟩
  have HW := Lib.hid hw1
  have b0 : Bk w1 w.heap.size 25 #[.int .i64 3, .int .i64 i, .int .u32 zz] := hw1 ▸ Bk.new w _ _
  have B1 : Hid (Below w.heap.size w w1) := hw1 ▸ bal _ _
  obtain ⟨q0, q1, q2, q3⟩ := ob_cells b0
  have SP : Hid (∀ W, Calls Tryz.prog 124 #[.int .i64 t] W fun e w' => e = .returned (.bool true) ∧ W = w') := fun W => espan_is t true W (by simpa using hs)
  have TM : Hid (∀ W, Calls Tryz.prog 125 #[.int .i64 now] W fun e w' => e = .returned (.bool true) ∧ W = w') := fun W => etime_is now true W (by simpa using ht)
  have CK := Lib.hid CKh
  have HC := Lib.hid HCh
  have hiz : (i : Int) < n := by omega
  have ht1 := ht.1
  have ht2 := ht.2
  have hs1 := hs.1
  have hs2 := hs.2
  clear CKh HCh hs ht b0 hw1
  rcases hE with ⟨h1, rfl, hQ⟩ | ⟨h1, h2, rfl, hQ⟩ | ⟨h1, h2, rfl, hQ⟩
  · have HQ := Lib.hid hQ
    clear hQ
    go_enter Tryz.func82, Tryz.ntmps82
    go_wp2
    rw [HW.out]
    go_region_held3 (fun W => W.cell? ⟨w.heap.size, 0, none⟩ = some (.int .i64 3) ∧ W.cell? ⟨w.heap.size, 1, none⟩ = some (.int .i64 i) ∧ W.cell? ⟨w.heap.size, 2, none⟩ = some (.int .u32 zz)) (first | (with_reducible exact hz1) | (exact ⟨q0, q1, q2⟩)) (first
      | (go_at_call 124; refine (SP.out _).mono ?_; rintro e w' ⟨rfl, rfl⟩)
      | (go_at_call 125; refine (TM.out _).mono ?_; rintro e w' ⟨rfl, rfl⟩)
      | (go_at_call 117; (with_reducible refine (CK.out _ (bel2 B1.out (by exact ⟨rfl, rfl, rfl, Nat.le_refl _, fun _ _ => rfl⟩))).mono ?_); rintro e w5 ⟨rfl, hb5⟩; have HB5 := Lib.hid (bel2 (bel2 B1.out (by exact ⟨rfl, rfl, rfl, Nat.le_refl _, fun _ _ => rfl⟩)) hb5); have hz1 := And.intro (cell_keeps hb5 q0) (And.intro (cell_keeps hb5 q1) (cell_keeps hb5 q2)); have hz2 := Nat.lt_of_lt_of_le q3 hb5.size; clear hb5))
    all_goals
      clear q0 q1 q2
      obtain ⟨q0, q1, q2⟩ := hz1
      obtain ⟨c2, c3, c4, c5, c6, c8, c7⟩ := HC.out w5 HB5.out
      go_wp2
      go_quiet (fail)
      go_wp2
      go_ret
      exact ⟨rfl, HQ.out _ (bel_drewN HB5.out _)⟩
  · have HQ := Lib.hid hQ
    clear hQ
    go_enter Tryz.func82, Tryz.ntmps82
    go_wp2
    rw [HW.out]
    go_region_held3 (fun W => W.cell? ⟨w.heap.size, 0, none⟩ = some (.int .i64 3) ∧ W.cell? ⟨w.heap.size, 1, none⟩ = some (.int .i64 i) ∧ W.cell? ⟨w.heap.size, 2, none⟩ = some (.int .u32 zz)) (first | (with_reducible exact hz1) | (exact ⟨q0, q1, q2⟩)) (first
      | (go_at_call 124; refine (SP.out _).mono ?_; rintro e w' ⟨rfl, rfl⟩)
      | (go_at_call 125; refine (TM.out _).mono ?_; rintro e w' ⟨rfl, rfl⟩)
      | (go_at_call 117; (with_reducible refine (CK.out _ (bel2 B1.out (by exact ⟨rfl, rfl, rfl, Nat.le_refl _, fun _ _ => rfl⟩))).mono ?_); rintro e w5 ⟨rfl, hb5⟩; have HB5 := Lib.hid (bel2 (bel2 B1.out (by exact ⟨rfl, rfl, rfl, Nat.le_refl _, fun _ _ => rfl⟩)) hb5); have hz1 := And.intro (cell_keeps hb5 q0) (And.intro (cell_keeps hb5 q1) (cell_keeps hb5 q2)); have hz2 := Nat.lt_of_lt_of_le q3 hb5.size; clear hb5))
    all_goals
      clear q0 q1 q2
      obtain ⟨q0, q1, q2⟩ := hz1
      obtain ⟨c2, c3, c4, c5, c6, c8, c7⟩ := HC.out w5 HB5.out
      go_wp2
      go_quiet (fail)
      go_wp2
      go_ret
      exact ⟨rfl, HQ.out _ (bel_drewN HB5.out _)⟩
  · have HQ := Lib.hid hQ
    clear hQ
    go_enter Tryz.func82, Tryz.ntmps82
    go_wp2
    rw [HW.out]
    go_region_held3 (fun W => W.cell? ⟨w.heap.size, 0, none⟩ = some (.int .i64 3) ∧ W.cell? ⟨w.heap.size, 1, none⟩ = some (.int .i64 i) ∧ W.cell? ⟨w.heap.size, 2, none⟩ = some (.int .u32 zz)) (first | (with_reducible exact hz1) | (exact ⟨q0, q1, q2⟩)) (first
      | (go_at_call 124; refine (SP.out _).mono ?_; rintro e w' ⟨rfl, rfl⟩)
      | (go_at_call 125; refine (TM.out _).mono ?_; rintro e w' ⟨rfl, rfl⟩)
      | (go_at_call 117; (with_reducible refine (CK.out _ (bel2 B1.out (by exact ⟨rfl, rfl, rfl, Nat.le_refl _, fun _ _ => rfl⟩))).mono ?_); rintro e w5 ⟨rfl, hb5⟩; have HB5 := Lib.hid (bel2 (bel2 B1.out (by exact ⟨rfl, rfl, rfl, Nat.le_refl _, fun _ _ => rfl⟩)) hb5); have hz1 := And.intro (cell_keeps hb5 q0) (And.intro (cell_keeps hb5 q1) (cell_keeps hb5 q2)); have hz2 := Nat.lt_of_lt_of_le q3 hb5.size; clear hb5))
    all_goals
      clear q0 q1 q2
      obtain ⟨q0, q1, q2⟩ := hz1
      obtain ⟨c2, c3, c4, c5, c6, c8, c7⟩ := HC.out w5 HB5.out
      go_wp2
      go_quiet (fail)
      go_wp2
      have f5 := c8
      go_region
      go_wp2
      go_ret
      exact ⟨rfl, HQ.out _ (bel_drewN HB5.out _)⟩
theorem erenew_nil (x y z t now : Int) (w : World) : Calls Tryz.prog 82 #[.pointer none, .agg #[.int .i64 x, .int .i64 y, .int .u32 z], .int .i64 t, .int .i64 now] w fun e w' => e = .returned (.int .i64 1) ∧ Below w.heap.size w w' := by
  by_cases hs : IsSpan t
  · by_cases ht : IsTime now
    · exact erenew_c none x y z t now 1 w hs ht (by decide) fun W _ => echeck_nil x y z false W
    · exact erenew_b none x y z t now 1 w hs ht (by decide) fun W _ => echeck_nil x y z true W
  · exact erenew_a none x y z t now 1 w hs (by decide) fun W _ => echeck_nil x y z true W
theorem erenew_ok (q c d g : Nat) (D : Dk) (x y z t now : Int) (hr : RgO x y z) (w : World) (h : QW w q c d g D) : Calls Tryz.prog 82 #[.pointer (some ⟨q, 0, none⟩), .agg #[.int .i64 x, .int .i64 y, .int .u32 z], .int .i64 t, .int .i64 now] w fun e w' => e = .returned (.int .i64 (D.rE x y z t now)) ∧ QWV q c d g (D.renew x y z t now) w w' := by
  have wrong : ∀ W, Below w.heap.size w W → Calls Tryz.prog 117 #[.pointer (some ⟨q, 0, none⟩), .agg #[.int .i64 x, .int .i64 y, .int .u32 z], .bool true] W fun e w' => e = .returned (.int .i64 2) ∧ Below W.heap.size W w' := fun W hW => echeck_any q c d g D x y z 2 true hr W (h.below hW) rfl
  have right : ∀ W, Below w.heap.size w W → Calls Tryz.prog 117 #[.pointer (some ⟨q, 0, none⟩), .agg #[.int .i64 x, .int .i64 y, .int .u32 z], .bool false] W fun e w' => e = .returned (.int .i64 (D.chk x y z)) ∧ Below W.heap.size W w' := fun W hW => echeck_ok q c d g D x y z hr W (h.below hW)
  have same : ∀ E, D.rE x y z t now = E → E ≠ 0 → Calls Tryz.prog 82 #[.pointer (some ⟨q, 0, none⟩), .agg #[.int .i64 x, .int .i64 y, .int .u32 z], .int .i64 t, .int .i64 now] w (fun e w' => e = .returned (.int .i64 E) ∧ Below w.heap.size w w') → Calls Tryz.prog 82 #[.pointer (some ⟨q, 0, none⟩), .agg #[.int .i64 x, .int .i64 y, .int .u32 z], .int .i64 t, .int .i64 now] w fun e w' => e = .returned (.int .i64 (D.rE x y z t now)) ∧ QWV q c d g (D.renew x y z t now) w w' := fun E hE h0 hc => by
    rw [hE, Dk.renew_ne (by rw [hE]; exact h0)]
    exact hc.mono fun _ _ ⟨e, hb⟩ => ⟨e, QWV.of_below h hb⟩
  by_cases hs : IsSpan t
  · by_cases ht : IsTime now
    · by_cases h0 : D.chk x y z = 0
      · have hE := Dk.rE_held hs ht h0
        obtain ⟨rfl, i, rfl, hi, hsi, rfl⟩ := Dk.chk_is h0
        rw [Int.toNat_natCast] at hE
        rw [h0] at right
        obtain ⟨cap, _, _, k1, k2, k3⟩ := h.cells
        have HC : ∀ W, Below w.heap.size w W → W.cell? ⟨q, 2, none⟩ = some (.slice (some ⟨g, 0, none⟩) D.t.n cap) ∧ D.t.n ≤ cap ∧ cap ≤ 9223372036854775807 ∧ q < W.heap.size ∧ W.cell? ⟨g, i, none⟩ = some (.int .i64 (D.u i)) ∧ W.frozen? ⟨g, i, none⟩ = false ∧ g < W.heap.size := fun W hW => by
          have e := cell_keeps hW k1
          obtain ⟨h4, h5, h6⟩ := (h.below hW).ci hi
          exact ⟨e, k2, k3, World.block_lt_of_cell? _ _ e, h4, h5, h6⟩
        by_cases ho : (D.u i : Int) ≤ now
        · rw [if_pos ho] at hE
          exact same 8 hE (by decide) (erenew_held q c d g i D.t.n cap (D.t.g i) (D.u i) t now w hs ht 8 (fun w w' => Below w.heap.size w w') hi right HC (.inl ⟨ho, rfl, fun _ h => h⟩))
        · rw [if_neg ho] at hE
          by_cases hm : now + t ≤ 1099511627776
          · rw [if_pos hm] at hE
            obtain ⟨yy, hy⟩ : ∃ yy : Nat, now + t = yy := ⟨(now + t).toNat, by have := hs.1; have := ht.1; omega⟩
            have e2 : D.renew 3 i (D.t.g i) t now = D.until i yy := by unfold Dk.renew; rw [if_pos hE, Int.toNat_natCast, hy, Int.toNat_natCast]
            rw [hE, e2]
            exact erenew_held q c d g i D.t.n cap (D.t.g i) (D.u i) t now w hs ht 0 (fun w w' => QWV q c d g (D.until i yy) w w') hi right HC (.inr (.inr ⟨by omega, hm, rfl, fun W hW => by
              rw [hy]
              obtain ⟨h1, h2⟩ := (h.below hW).put hi (y := yy) (by omega)
              exact ⟨h1, (Kept.of_below hW).trans (h2.mono fun _ _ e => .inr (.inr (.inr e)))⟩⟩))
          · rw [if_neg hm] at hE
            exact same 17 hE (by decide) (erenew_held q c d g i D.t.n cap (D.t.g i) (D.u i) t now w hs ht 17 (fun w w' => Below w.heap.size w w') hi right HC (.inr (.inl ⟨by omega, by omega, rfl, fun _ h => h⟩)))
      · have hE : D.rE x y z t now = D.chk x y z := by
          unfold Dk.rE Dk.chk at *
          by_cases hf : IsLease x y z
          · rw [if_pos hf] at h0 ⊢
            rw [if_pos ⟨hf, hs, ht⟩, if_neg h0]
          · rw [if_neg hf, if_neg fun e => hf e.1]
        exact same _ hE h0 (erenew_c _ x y z t now _ w hs ht h0 right)
    · exact same 2 (if_neg fun e => ht e.2.2) (by decide) (erenew_b _ x y z t now 2 w hs ht (by decide) wrong)
  · exact same 2 (if_neg fun e => hs e.2.1) (by decide) (erenew_a _ x y z t now 2 w hs (by decide) wrong)
end Go.Proofs.YtpinmiplefidpaaGreatDoor.LS

namespace Go.Proofs.YtpinmiplefidpaaGreatDoor.LS
open Go.RowKit
open Go.Proofs.YtpinmiplefidpaaGreatDoor.SR

def EGraV (q c d g : Nat) (D : Dk) (x now : Int) (w : World) (e : Ending) (w' : World) : Prop :=
  e = .returned (.tuple #[.agg #[.int .i64 (D.gK x now), .int .i64 (D.gI x now), .int .u32 (D.gG x now)], .int .i64 (D.gE x now)]) ∧ QW w' q c d g (D.grant x now) ∧ Kept (QFt q c d g) w w'
set_option maxRecDepth 100000 in
theorem egrant_nil (x now : Int) (w : World) : Calls Tryz.prog 109 #[.pointer none, .int .i64 x, .int .i64 now] w fun e w' => e = .returned (.tuple #[.agg #[.int .i64 0, .int .i64 0, .int .u32 0], .int .i64 1]) ∧ Below w.heap.size w w' := by
  go_enter Tryz.func109, Tryz.ntmps109
  go_wp2_with (go_at_call 131; refine (evalid_nil _).mono ?_; rintro e w' ⟨rfl, rfl⟩)
  refine bodyPost_ret (v := .tuple #[.agg #[.int .i64 0, .int .i64 0, .int .u32 0], .int .i64 1]) (by simp [results, Tryz.results109, go_sem]) rfl ⟨rfl, ?_⟩
  exact (Below.refl _ w).alloc (Nat.le_refl _) _
set_option maxRecDepth 100000 in
theorem egrant_arg (q : Nat) (x now : Int) (w : World) (hc : w.cell? ⟨q, 0, none⟩ = some (.bool true)) (hx : ¬ (IsSpan x ∧ IsTime now)) : Calls Tryz.prog 109 #[.pointer (some ⟨q, 0, none⟩), .int .i64 x, .int .i64 now] w fun e w' => e = .returned (.tuple #[.agg #[.int .i64 0, .int .i64 0, .int .u32 0], .int .i64 2]) ∧ Below w.heap.size w w' := by
  have H := Lib.hid (cell_keeps ((Below.refl _ w).alloc (Nat.le_refl _) (.cells #[.int .i64 0, .int .i64 0, .int .u32 0] 25)) hc)
  clear hc
  by_cases h1 : IsSpan x
  · have S := Lib.hid h1
    have T : Hid (¬ IsTime now) := fun e => hx ⟨h1, e⟩
    clear hx h1
    go_enter Tryz.func109, Tryz.ntmps109
    go_wp2_with (first
      | (go_at_call 131; refine (evalid_yes _ _ H.out).mono ?_; rintro e w' ⟨rfl, rfl⟩)
      | (go_at_call 124; refine (espan_yes _ _ S.out).mono ?_; rintro e w' ⟨rfl, rfl⟩)
      | (go_at_call 125; refine (etime_no _ _ T.out).mono ?_; rintro e w' ⟨rfl, rfl⟩))
    refine bodyPost_ret (v := .tuple #[.agg #[.int .i64 0, .int .i64 0, .int .u32 0], .int .i64 2]) (by simp [results, Tryz.results109, go_sem]) rfl ⟨rfl, ?_⟩
    exact (Below.refl _ w).alloc (Nat.le_refl _) _
  · have S := Lib.hid h1
    clear hx h1
    go_enter Tryz.func109, Tryz.ntmps109
    go_wp2_with (first
      | (go_at_call 131; refine (evalid_yes _ _ H.out).mono ?_; rintro e w' ⟨rfl, rfl⟩)
      | (go_at_call 124; refine (espan_no _ _ S.out).mono ?_; rintro e w' ⟨rfl, rfl⟩))
    refine bodyPost_ret (v := .tuple #[.agg #[.int .i64 0, .int .i64 0, .int .u32 0], .int .i64 2]) (by simp [results, Tryz.results109, go_sem]) rfl ⟨rfl, ?_⟩
    exact (Below.refl _ w).alloc (Nat.le_refl _) _
set_option maxHeartbeats 1000000 in
set_option maxRecDepth 100000 in
theorem egrant_late (q : Nat) (x now : Int) (w : World) (hc : w.cell? ⟨q, 0, none⟩ = some (.bool true)) (hx : IsSpan x) (hn : IsTime now) (hl : 1099511627776 < now + x) : Calls Tryz.prog 109 #[.pointer (some ⟨q, 0, none⟩), .int .i64 x, .int .i64 now] w fun e w' => e = .returned (.tuple #[.agg #[.int .i64 0, .int .i64 0, .int .u32 0], .int .i64 17]) ∧ Below w.heap.size w w' := by
  have H := Lib.hid (cell_keeps ((Below.refl _ w).alloc (Nat.le_refl _) (.cells #[.int .i64 0, .int .i64 0, .int .u32 0] 25)) hc)
  have S := Lib.hid hx
  have T := Lib.hid hn
  have hwr : IntKind.i64.wrap (now + x) = now + x := by obtain ⟨_, _⟩ := hx; obtain ⟨_, _⟩ := hn; rw [IntKind.wrap_i64]; omega
  clear hc hx hn
  go_enter Tryz.func109, Tryz.ntmps109
  go_wp2_with (first
    | (go_at_call 131; refine (evalid_yes _ _ H.out).mono ?_; rintro e w' ⟨rfl, rfl⟩)
    | (go_at_call 124; refine (espan_yes _ _ S.out).mono ?_; rintro e w' ⟨rfl, rfl⟩)
    | (go_at_call 125; refine (etime_yes _ _ T.out).mono ?_; rintro e w' ⟨rfl, rfl⟩))
  refine bodyPost_ret (v := .tuple #[.agg #[.int .i64 0, .int .i64 0, .int .u32 0], .int .i64 17]) (by simp [results, Tryz.results109, go_sem]) rfl ⟨rfl, ?_⟩
  exact (Below.refl _ w).alloc (Nat.le_refl _) _
/-- Take, from within Grant. -/
theorem etake_in {w w4 : World} {q c d g : Nat} {D : Dk} {T : Tb} (h : QW w q c d g D) (B4 : Below w.heap.size w w4) (n4 : Bk w4 w.heap.size 25 #[.int .i64 0, .int .i64 0, .int .u32 0]) (hT : D.t.take = T) (ho : T.Ok) :
    Calls Tryz.prog 137 #[.pointer (some ⟨c, 0, none⟩)] w4 fun e w' => e = .returned (.tuple #[.agg #[.int .i64 D.t.tI, .int .u32 D.t.tG], .int .i64 D.t.tE]) ∧ (QW w' q c d g ⟨T, D.u⟩ ∧ Kept (QFt q c d g) w w') ∧ Bk w' w.heap.size 25 #[.int .i64 0, .int .i64 0, .int .u32 0] := by
  refine (rtake_ok c d D.t w4 (h.below B4).tab).mono ?_
  rintro e w' ⟨rfl, h1, hk⟩
  rw [hT] at h1
  have hn : T.n = D.t.n := by rw [← hT]; exact Tb.take_n _
  have hd := h.tab.dt
  exact ⟨rfl, ⟨(h.below B4).tabbed hk h1 hn ⟨ho, by show T.n ≤ 64; rw [hn]; exact h.ok.hi, h.ok.u⟩, (Kept.of_below B4).trans (hk.mono fun _ _ e => .inr (.inr (.inl e)))⟩, n4.kept hk (by omega)⟩
set_option maxHeartbeats 2000000 in
set_option maxRecDepth 100000 in
theorem egrant_full (q c d g : Nat) (D : Dk) (x now : Int) (w : World) (h : QW w q c d g D) (hx : IsSpan x) (hn : IsTime now) (hl : now + x ≤ 1099511627776) (h4 : D.t.free = []) : Calls Tryz.prog 109 #[.pointer (some ⟨q, 0, none⟩), .int .i64 x, .int .i64 now] w fun e w' => e = .returned (.tuple #[.agg #[.int .i64 0, .int .i64 0, .int .u32 0], .int .i64 4]) ∧ QW w' q c d g D ∧ Kept (QFt q c d g) w w' := by
  obtain ⟨w4, hw4⟩ : ∃ w4, w.alloc (.cells #[.int .i64 0, .int .i64 0, .int .u32 0] 25) = w4 := ⟨_, rfl⟩
  have B4 : Below w.heap.size w w4 := by rw [← hw4]; exact (Below.refl _ w).alloc (Nat.le_refl _) _
  have n4 : Bk w4 w.heap.size 25 #[.int .i64 0, .int .i64 0, .int .u32 0] := by rw [← hw4]; exact Bk.new w _ _
  obtain ⟨cap, c0, c1, _⟩ := (h.below B4).cells
  have TK : Hid (Calls Tryz.prog 137 #[.pointer (some ⟨c, 0, none⟩)] w4 fun e w' => e = .returned (.tuple #[.agg #[.int .i64 0, .int .u32 0], .int .i64 4]) ∧ (QW w' q c d g D ∧ Kept (QFt q c d g) w w') ∧ Bk w' w.heap.size 25 #[.int .i64 0, .int .i64 0, .int .u32 0]) := by
    have t := etake_in h B4 n4 (T := D.t) (by unfold Tb.take; rw [h4]) h.ok.t
    have e2 : D.t.tI = 0 := by unfold Tb.tI; rw [h4]
    have e3 : D.t.tG = 0 := by unfold Tb.tG; rw [h4]
    have e4 : D.t.tE = 4 := by unfold Tb.tE; rw [h4]
    rw [e2, e3, e4] at t
    exact t
  have FT : Hid (∀ z, QFt q c d g z → z < w.heap.size) := fun z hz => h.foot_lt hz
  have HW4 := Lib.hid hw4
  have S := Lib.hid hx
  have T := Lib.hid hn
  have hwr : IntKind.i64.wrap (now + x) = now + x := by obtain ⟨_, _⟩ := hx; obtain ⟨_, _⟩ := hn; rw [IntKind.wrap_i64]; omega
  rw [← hw4] at c0 c1 TK
  clear h B4 n4 hw4 h4 hx hn
  go_enter Tryz.func109, Tryz.ntmps109
  go_wp2_with (first
    | (go_at_call 131; refine (evalid_yes _ _ c0).mono ?_; rintro e w' ⟨rfl, rfl⟩)
    | (go_at_call 124; refine (espan_yes _ _ S.out).mono ?_; rintro e w' ⟨rfl, rfl⟩)
    | (go_at_call 125; refine (etime_yes _ _ T.out).mono ?_; rintro e w' ⟨rfl, rfl⟩)
    | (go_at_call 137; refine TK.out.mono ?_; rintro e w6 ⟨rfl, hp, hO⟩; have HP := Lib.hid hp; have HO := Lib.hid hO; obtain ⟨d0, d1, d2, f0, f1, f2⟩ := laid3 hO; have hl6 := hO.lt; clear hp hO))
  have HT := Lib.hid ((three_put HO.out (.int .i64 0) (.int .i64 0) (.int .u32 0)).up (.cells #[.int .i64 0, .int .u32 0] 193))
  have t0 := HT.out.cell 0
  have t1 := HT.out.cell 1
  have t2 := HT.out.cell 2
  simp only [List.getElem?_toArray, List.getElem?_cons_zero, List.getElem?_cons_succ] at t0 t1 t2
  refine bodyPost_ret (v := .tuple #[.agg #[.int .i64 0, .int .i64 0, .int .u32 0], .int .i64 4]) (by simp [results, Tryz.results109, go_sem, t0, t1, t2]) rfl ⟨rfl, ?_⟩
  have hkp := (((((Kept.refl (· = w.heap.size) w6).put1 0 (.int .i64 0)).put1 1 (.int .i64 0)).put1 2 (.int .u32 0)).alloc (.cells #[.int .i64 0, .int .u32 0] 193))
  exact ⟨HP.out.1.kept hkp (fun g hg e => by have := FT.out g hg; omega), HP.out.2.self (hkp.mono fun g _ e => Or.inr (Nat.le_of_eq e.symm))⟩
set_option maxHeartbeats 4000000 in
set_option maxRecDepth 100000 in
theorem egrant_yes (q c d g : Nat) (D : Dk) (x now : Int) (w : World) (h : QW w q c d g D) (hx : IsSpan x) (hn : IsTime now) (hl : now + x ≤ 1099511627776) (i : Nat) (r : List Nat) (h4 : D.t.free = i :: r) : Calls Tryz.prog 109 #[.pointer (some ⟨q, 0, none⟩), .int .i64 x, .int .i64 now] w fun e w' => e = .returned (.tuple #[.agg #[.int .i64 3, .int .i64 i, .int .u32 (D.t.g i)], .int .i64 0]) ∧ QW w' q c d g (D.took i (now + x).toNat) ∧ Kept (QFt q c d g) w w' := by
  obtain ⟨hin, _⟩ := Tb.free_lt h4
  have hi := h.ok.hi
  have hg1 := h.ok.t.gm i
  obtain ⟨w4, hw4⟩ : ∃ w4, w.alloc (.cells #[.int .i64 0, .int .i64 0, .int .u32 0] 25) = w4 := ⟨_, rfl⟩
  have B4 : Below w.heap.size w w4 := by rw [← hw4]; exact (Below.refl _ w).alloc (Nat.le_refl _) _
  have n4 : Bk w4 w.heap.size 25 #[.int .i64 0, .int .i64 0, .int .u32 0] := by rw [← hw4]; exact Bk.new w _ _
  obtain ⟨_, c0, c1, _⟩ := (h.below B4).cells
  have TK : Hid (Calls Tryz.prog 137 #[.pointer (some ⟨c, 0, none⟩)] w4 fun e w' => e = .returned (.tuple #[.agg #[.int .i64 i, .int .u32 (D.t.g i)], .int .i64 0]) ∧ (QW w' q c d g ⟨D.t.took i, D.u⟩ ∧ Kept (QFt q c d g) w w') ∧ Bk w' w.heap.size 25 #[.int .i64 0, .int .i64 0, .int .u32 0]) := by
    have t := etake_in h B4 n4 (T := D.t.took i) (by unfold Tb.take; rw [h4]) (h.ok.t.took i)
    have e2 : D.t.tI = i := by unfold Tb.tI; rw [h4]
    have e3 : D.t.tG = D.t.g i := by unfold Tb.tG; rw [h4]
    have e4 : D.t.tE = 0 := by unfold Tb.tE; rw [h4]
    rw [e2, e3, e4] at t
    exact t
  have FT : Hid (∀ z, QFt q c d g z → z < w.heap.size) := fun z hz => h.foot_lt hz
  have HW4 := Lib.hid hw4
  have S := Lib.hid hx
  have T := Lib.hid hn
  have hwr : IntKind.i64.wrap (now + x) = now + x := by obtain ⟨_, _⟩ := hx; obtain ⟨_, _⟩ := hn; rw [IntKind.wrap_i64]; omega
  obtain ⟨y, hy⟩ : ∃ y : Nat, (now + x).toNat = y := ⟨_, rfl⟩
  have HY : Hid (now + x = (y : Int) ∧ y ≤ 1099511627776) := by obtain ⟨_, _⟩ := hx; obtain ⟨_, _⟩ := hn; unfold Hid; omega
  rw [hy]
  have hi64 : (i : Int) < 64 := by omega
  rw [← hw4] at c0 c1 TK
  obtain ⟨n, hnn⟩ : ∃ n, D.t.n = n := ⟨_, rfl⟩
  rw [hnn] at hin
  have HN : Hid ((⟨D.t.took i, D.u⟩ : Dk).t.n = n) := hnn
  have hinz : (i : Int) < n := by omega
  clear h B4 n4 hw4 h4 hx hn hy hi hnn
  obtain ⟨G, hG⟩ : ∃ G, D.t.g i = G := ⟨_, rfl⟩
  rw [hG] at hg1 TK ⊢
  obtain ⟨M, hM⟩ : ∃ M, D.u i = M := ⟨_, rfl⟩
  have HM := Lib.hid hM
  clear hG hM
  go_enter Tryz.func109, Tryz.ntmps109
  go_wp2_with (first
    | (go_at_call 131; refine (evalid_yes _ _ c0).mono ?_; rintro e w' ⟨rfl, rfl⟩)
    | (go_at_call 124; refine (espan_yes _ _ S.out).mono ?_; rintro e w' ⟨rfl, rfl⟩)
    | (go_at_call 125; refine (etime_yes _ _ T.out).mono ?_; rintro e w' ⟨rfl, rfl⟩)
    | (go_at_call 137; refine TK.out.mono ?_; rintro e w6 ⟨rfl, hp, hO⟩; have HP := Lib.hid hp; have HO := Lib.hid hO; clear hp hO))
  obtain ⟨W8, h8⟩ : ∃ W8, w6.alloc (.cells #[.int .i64 i, .int .u32 G] 193) = W8 := ⟨_, rfl⟩
  obtain ⟨I, hI⟩ : ∃ I, w6.heap.size = I := ⟨_, rfl⟩
  have p8 : QW W8 q c d g ⟨D.t.took i, D.u⟩ := by rw [← h8]; exact HP.out.1.below ((Below.refl _ _).alloc (Nat.le_refl _) _)
  have o8 : Bk W8 w.heap.size 25 #[.int .i64 0, .int .i64 0, .int .u32 0] := by rw [← h8]; exact HO.out.up _
  have i8 : Bk W8 I 193 #[.int .i64 i, .int .u32 G] := by rw [← h8, ← hI]; exact Bk.new w6 _ _
  have k8 : Kept (QFt q c d g) w W8 := by rw [← h8]; exact HP.out.2.alloc _
  have hIg : w.heap.size < I := by rw [← hI]; exact HO.out.lt
  rw [h8, hI]
  clear h8 hI HP HO c0 c1 TK
  obtain ⟨cap, x6, _, x0, x7, x8⟩ := p8.cells
  rw [HN.out] at x0 x7
  obtain ⟨x1, x2, x3⟩ := p8.ci (i := i) (by rw [HN.out]; exact hin)
  have x9 : q < W8.heap.size := World.block_lt_of_cell? _ _ x0
  have x10 := i8.lt
  have x5 := i8.cell 0
  simp only [List.getElem?_toArray, List.getElem?_cons_zero, HM.out] at x1 x5
  have HL := Lib.hid (And.intro p8 (And.intro o8 (And.intro i8 (And.intro k8 hIg))))
  clear p8 o8 i8 k8 hIg
  go_region
  obtain ⟨W9, h9⟩ : ∃ W9, (W8.setCell ⟨g, i, none⟩ (.int .i64 (now + x))).drew = W9 := ⟨_, rfl⟩
  obtain ⟨p8, o8, i8, k8, hIg⟩ := HL.out
  have e9 : ∀ z, z ≠ g → W9.heap[z]? = W8.heap[z]? := fun z hz => by rw [← h9]; exact Below.heap_setCell _ _ _ _ hz
  have p9 : QW W9 q c d g (D.took i y) := by
    have := (p8.put (i := i) (y := y) (by rw [HN.out]; exact hin) HY.out.2).1
    rw [← HY.out.1] at this
    rw [← h9]; exact this.same fun _ _ => rfl
  have hs1 : g ≠ w.heap.size := by have := FT.out g (.inr (.inr (.inr rfl))); omega
  have hs2 : g ≠ I := by have := FT.out g (.inr (.inr (.inr rfl))); omega
  have o9 := o8.same (e9 w.heap.size (fun e => hs1 e.symm))
  have i9 := i8.same (e9 I (fun e => hs2 e.symm))
  have k9 : Kept (QFt q c d g) w W9 := by rw [← h9]; exact (k8.put (p := ⟨g, i, none⟩) (.inr (.inr (.inr (.inr rfl)))) _).drew
  rw [h9]
  clear h9 e9 p8 o8 i8 k8 HL x0 x1 x2 x3 x5 x6 x7 x8 x9 x10 hs1 hs2
  have j0 := i9.cell 0
  have j1 := i9.cell 1
  have j2 := i9.lt
  simp only [List.getElem?_toArray, List.getElem?_cons_zero, List.getElem?_cons_succ] at j0 j1
  obtain ⟨d0, d1, d2, f0, f1, f2⟩ := laid3 o9
  have d3 := o9.lt
  have HL := Lib.hid (And.intro p9 (And.intro o9 (And.intro k9 hIg)))
  clear p9 o9 i9 k9 hIg
  go_wp2
  have t := three_put HL.out.2.1 (.int .i64 3) (.int .i64 i) (.int .u32 G)
  have t0 := t.cell 0
  have t1 := t.cell 1
  have t2 := t.cell 2
  simp only [List.getElem?_toArray, List.getElem?_cons_zero, List.getElem?_cons_succ] at t0 t1 t2
  refine bodyPost_ret (v := .tuple #[.agg #[.int .i64 3, .int .i64 i, .int .u32 G], .int .i64 0]) (by simp [results, Tryz.results109, go_sem, t0, t1, t2]) rfl ⟨rfl, ?_⟩
  have hkp := ((((Kept.refl (· = w.heap.size) W9).put1 0 (.int .i64 3)).put1 1 (.int .i64 i)).put1 2 (.int .u32 G))
  exact ⟨HL.out.1.kept hkp (fun g hg e => by have := FT.out g hg; omega), HL.out.2.2.1.self (hkp.mono fun g _ e => Or.inr (Nat.le_of_eq e.symm))⟩
/-- Grant, whatever is asked. -/
theorem egrant_ok (q c d g : Nat) (D : Dk) (x now : Int) (w : World) (h : QW w q c d g D) : Calls Tryz.prog 109 #[.pointer (some ⟨q, 0, none⟩), .int .i64 x, .int .i64 now] w (EGraV q c d g D x now w) := by
  unfold EGraV
  obtain ⟨_, c0, _⟩ := h.cells
  rcases D.g_cases x now with ⟨h1, h2⟩ | ⟨h1, h2, h3, h4⟩ | ⟨h1, h2, h3, h4, h5⟩ | ⟨h1, h2, h3, i, r, h4, h5⟩
  · obtain ⟨e1, e2, e3, e4⟩ := Dk.grant_ne (D := D) (x := x) (now := now) (by omega)
    rw [e1, e2, e3, e4, h2]
    exact (egrant_arg q x now w c0 h1).mono fun _ _ ⟨g1, g2⟩ => ⟨g1, h.below g2, Kept.of_below g2⟩
  · obtain ⟨e1, e2, e3, e4⟩ := Dk.grant_ne (D := D) (x := x) (now := now) (by omega)
    rw [e1, e2, e3, e4, h4]
    exact (egrant_late q x now w c0 h1 h2 h3).mono fun _ _ ⟨g1, g2⟩ => ⟨g1, h.below g2, Kept.of_below g2⟩
  · obtain ⟨e1, e2, e3, e4⟩ := Dk.grant_ne (D := D) (x := x) (now := now) (by omega)
    rw [e1, e2, e3, e4, h5]
    exact egrant_full q c d g D x now w h h1 h2 h3 h4
  · obtain ⟨e1, e2, e3, e4⟩ := Dk.grant_zero h5 h4
    rw [e1, e2, e3, e4, h5]
    exact egrant_yes q c d g D x now w h h1 h2 h3 i r h4
end Go.Proofs.YtpinmiplefidpaaGreatDoor.LS

namespace Go.Proofs.YtpinmiplefidpaaGreatDoor.SR
open Go.RowKit

/-! ### Taken -/
/-- The references of the slots below k that are taken. -/
def nowTo (T : Tb) (k : Nat) : List (Nat × Nat) := T.refs (sel T.s 1 k)
theorem nowTo_yes {T : Tb} {k : Nat} (h : T.s k = 1) : nowTo T (k + 1) = nowTo T k ++ [(k, T.g k)] := by unfold nowTo; rw [sel_snoc, if_pos h, refs_snoc]
theorem nowTo_no {T : Tb} {k : Nat} (h : T.s k ≠ 1) : nowTo T (k + 1) = nowTo T k := by unfold nowTo; rw [sel_snoc, if_neg h, List.append_nil]
theorem nowTo_len (T : Tb) (k : Nat) : (nowTo T k).length ≤ k := by unfold nowTo Tb.refs; rw [List.length_map]; exact sel_len _ _ _
set_option maxHeartbeats 1000000 in
set_option maxRecDepth 100000 in
theorem rtaken_nil (w : World) : Calls Tryz.prog 135 #[.pointer none] w fun e w' => e = .returned (.slice none 0 0) ∧ w = w' := by
  go_enter Tryz.func135, Tryz.ntmps135
  go_wp2
  go_loop [3, 4] (fun c i => c = .slice none 0 0 ∧ i = .int .i64 0) (fun _ _ => 0)
  case atStart => exact ⟨rfl, rfl⟩
  case round =>
    obtain ⟨rfl, rfl⟩ := hrel
    go_wp2_with (go_at_call 144; refine (rvalid_nil _).mono ?_; rintro e w' ⟨rfl, rfl⟩)
    go_ret
    exact ⟨rfl, rfl⟩
set_option maxRecDepth 100000 in
set_option maxHeartbeats 2000000 in
theorem rtaken_ok (b d : Nat) (T : Tb) (w : World) (h : RefW w b d T) : Calls Tryz.prog 135 #[.pointer (some ⟨b, 0, none⟩)] w (TkS T.now w) := by
  obtain ⟨i0, hi, hz0, hz1, hz2⟩ := info_parts info_ref
  obtain ⟨cap, hc, hcap, hcm⟩ := h.c0
  have hn := h.ok.hi
  have hct := h.ct
  have hdt := h.dt
  have H := Lib.hid h
  clear h
  go_enter Tryz.func135, Tryz.ntmps135
  go_wp2
  go_loopw [3, 4] (fun v i wr => ∃ k : Nat, k ≤ T.n ∧ i = .int .i64 k ∧ Hid (wr.ownsRow w.heap.size 193 2 v (nowTo T k).length (pairs (nowTo T k))) ∧ Hid (Below w.heap.size w wr)) (fun _ i _ => T.n - (intOf i).toNat)
  case atStart => exact ⟨0, Nat.zero_le _, rfl, World.ownsRow_nil _ _ _ _, Below.refl _ _⟩
  case round =>
    clear hc
    obtain ⟨k, hk, rfl, HO, HBE⟩ := hrel
    have HW := Lib.hid (H.out.below HBE.out)
    obtain ⟨cap2, hc, hcap2, hcm2⟩ := HW.out.c0
    by_cases hlt : k < T.n
    · have hcs := HW.out.cs hlt
      have hcg := HW.out.cg hlt
      have hsz := HBE.out.size
      have hll := nowTo_len T k
      have hown := HO.out
      by_cases hs1 : T.s k = 1
      · have hnx := nowTo_yes hs1
        rw [hs1] at hcs
        obtain ⟨y, hy⟩ : ∃ y, T.g k = y := ⟨_, rfl⟩
        rw [hy] at hcg hnx
        have HNX := Lib.hid hnx
        clear hnx hs1 hy
        generalize nowTo T k = L at *
        go_wp2_with (first
          | (go_at_call 144; refine (rvalid_yes _ _ _ _ HW.out).mono ?_; rintro e w' ⟨rfl, rfl⟩)
          | (at_builtin; refine wpList_append_own _ rfl _ _ 203 rfl w.heap.size 193 i0 (.agg #[.int .i64 0, .int .u32 0]) 2 16 Tryz.underlying203 hi hz0 hz1 hz2 rfl (by decide) _ _ _ rfl (hown.alloc _) ⟨wr.heap.size, 0, none⟩ 1 1 [.int .i64 k, .int .u32 y] rfl rfl (cell_two_new _ _ _ _) ?c2 ?c3 ?c4 ?c5 ?_))
        case c2 => intro u hu; simp at hu; rcases hu with rfl | rfl <;> rfl
        case c3 => unfold maxLen; omega
        case c4 => omega
        case c5 => simp; omega
        intro v' w2 hown' hgrow _
        have HB2 := Lib.hid ((HBE.out.alloc hsz _).grown hgrow (by simp; omega) (fun q hq => (hown.lt q hq).1))
        have HO2 : Hid (w2.ownsRow w.heap.size 193 2 v' (L ++ [(k, y)]).length (pairs (L ++ [(k, y)]))) := by
          unfold Hid; rw [pairs_snoc, List.length_append]; exact hown'
        clear hown' hgrow hown
        go_wp2
        go_roundw
        case rel => exact ⟨k + 1, by omega, by go_num, by rw [HNX.out]; exact HO2.out, HB2.out⟩
        case measure => simp [intOf]; omega
      · have hnx := nowTo_no hs1
        have HNX := Lib.hid hnx
        have hx : ((T.s k : Int) == 1) = false := beq_eq_false_iff_ne.2 (by omega)
        generalize T.s k = x at *
        clear hnx hs1 hown
        go_wp2_with (go_at_call 144; refine (rvalid_yes _ _ _ _ HW.out).mono ?_; rintro e w' ⟨rfl, rfl⟩)
        go_roundw
        case rel => exact ⟨k + 1, by omega, by go_num, by rw [HNX.out]; exact HO.out, HBE.out⟩
        case measure => simp [intOf]; omega
    · obtain rfl : k = T.n := by omega
      have hsr := Sr.of_own HO.out
      obtain ⟨a2, c2, e2⟩ := hsr.len
      have HSR := Lib.hid hsr
      subst e2
      clear hsr
      go_wp2_with (go_at_call 144; refine (rvalid_yes _ _ _ _ HW.out).mono ?_; rintro e w' ⟨rfl, rfl⟩)
      go_ret
      exact ⟨a2, c2, rfl, HSR.out, HBE.out⟩

/-! ### Copy -/
def RCpV (T : Tb) (w : World) (e : Ending) (w' : World) : Prop := ∃ c d, e = .returned (.pointer (some ⟨c, 0, none⟩)) ∧ w.heap.size ≤ c ∧ w.heap.size ≤ d ∧ RefW w' c d T ∧ Below w.heap.size w w'
set_option maxRecDepth 100000 in
theorem rcopy_nil (w : World) : Calls Tryz.prog 132 #[.pointer none] w fun e w' => e = .returned (.pointer none) ∧ w = w' := by
  go_enter Tryz.func132, Tryz.ntmps132
  go_wp2_with (go_at_call 144; refine (rvalid_nil _).mono ?_; rintro e w' ⟨rfl, rfl⟩)
  go_ret
  exact ⟨rfl, rfl⟩
set_option maxHeartbeats 1000000 in
set_option maxRecDepth 100000 in
theorem rcopy_ok (b d : Nat) (T : Tb) (w : World) (h : RefW w b d T) : Calls Tryz.prog 132 #[.pointer (some ⟨b, 0, none⟩)] w (RCpV T w) := by
  obtain ⟨i0, hi, hz0, hz1, hz2⟩ := info_parts info_slot
  obtain ⟨cap, hc, hcap, hcm⟩ := h.c0
  have hn := h.ok.hi
  have hct := h.ct
  have hdt := h.dt
  have hown : (w.alloc (.cells #[] 215)).ownsRow w.heap.size 215 2 (.slice (some ⟨w.heap.size, 0, none⟩) 0 0) 0 [] := World.ownsRow_lit w #[] 0 (Nat.le_refl _) (by decide) rfl
  have HO := Lib.hid hown
  have H := Lib.hid h
  clear h hown
  go_enter Tryz.func132, Tryz.ntmps132
  go_wp2_with (first
    | (go_at_call 144; refine (rvalid_yes _ _ _ _ H.out).mono ?_; rintro e w' ⟨rfl, rfl⟩)
    | (at_builtin; refine wpList_append_own _ rfl _ _ 211 rfl w.heap.size 215 i0 (.agg #[.int .i64 0, .int .u32 0]) 2 16 Tryz.underlying211 hi hz0 hz1 hz2 rfl (by decide) _ _ _ rfl HO.out ⟨d, 0, none⟩ T.n cap (pairs (duos T T.n)) rfl ?c0 ?c1 ?c2 ?c3 ?c4 ?c5 ?_))
  case c0 => rw [pairs_len, duos_len]
  case c1 =>
    intro j u hj
    have hjl := (List.getElem?_eq_some_iff.1 hj).1
    rw [pairs_len, duos_len] at hjl
    have hi2 : j / 2 < T.n := by omega
    have hp := pairs_at (duos T T.n) (j / 2) _ (duos_at T hi2)
    have e : (⟨d, 0, none⟩ : Addr).add j = ⟨d, j, none⟩ := by unfold Addr.add; split <;> simp_all
    rw [e, World.cell?_alloc_lt _ _ _ hdt]
    by_cases ej : j % 2 = 0
    · have e2 : j = j / 2 * 2 := by omega
      rw [e2] at hj ⊢
      rw [H.out.cs hi2, ← hj, hp.1]
    · have e2 : j = j / 2 * 2 + 1 := by omega
      rw [e2] at hj ⊢
      have e3 : (j / 2 * 2 + 1) / 2 = j / 2 := by omega
      rw [H.out.cg hi2, ← hj, hp.2]
  case c2 =>
    intro u hu
    obtain ⟨r, _, hr⟩ := List.mem_flatMap.1 hu
    simp at hr
    rcases hr with rfl | rfl <;> rfl
  case c3 => unfold maxLen; omega
  case c4 => omega
  case c5 => simp
  intro v' w1 hown' hgrow _
  have HV := Lib.hid hown'
  have HB := Lib.hid (((Below.refl _ w).alloc (Nat.le_refl _) (.cells #[] 215)).grown hgrow (by simp) (fun k hk => by simp [Value.ownBlock] at hk; omega))
  have hlo := H.out.ok.lo
  have hv : ∃ g' c', v' = .slice (some ⟨g', 0, none⟩) T.n c' := by
    rcases hown'.2 with ⟨_, h0⟩ | ⟨g, cap', _, e, _⟩
    · omega
    · exact ⟨g, cap', e⟩
  obtain ⟨g', c', rfl⟩ := hv
  have hal : Below w1.heap.size w1 (w1.alloc (.cells #[.slice (some ⟨g', 0, none⟩) T.n c'] 213)) := (Below.refl _ w1).alloc (Nat.le_refl _) _
  obtain ⟨d2, hd2, hR⟩ := refW_of_own (c := w1.heap.size) H.out.ok rfl (Bk.new w1 213 #[.slice (some ⟨g', 0, none⟩) T.n c']) (own_below HV.out hal)
  have HR := Lib.hid hR
  have HD := Lib.hid hd2
  have HF := Lib.hid (bel2 HB.out hal)
  have HS := Lib.hid HB.out.size
  clear hown' hgrow hR hd2 hal HV
  go_wp2
  go_ret
  exact ⟨w1.heap.size, d2, rfl, HS.out, HD.out, HR.out, HF.out⟩
end Go.Proofs.YtpinmiplefidpaaGreatDoor.SR

namespace Go.Proofs.YtpinmiplefidpaaGreatDoor.LS
open Go.RowKit
open Go.Proofs.YtpinmiplefidpaaGreatDoor.SR

theorem step_append_run {w : World} {ops : Array Oper} {o : Oper} {a : Act} {K : Act → World → Prop} {Q : Exit → Act → World → Prop} {E : Prop} (hgd : o.guard = none) (dst : Option Nat) (hd : o.dst = dst) (s x : Operand) (t tn : TypeId)
    (ho : o.op = .call { callee := .builtin .append, args := #[s, x], argTypes := #[t, tn] }) (vs vx : Value) (hs : a.eval s = vs) (hx : a.eval x = vx)
    (v' : Value) (w' : World) (hr : (Builtin.append_ #[t, tn] o.type #[vs, vx]).run Tryz.prog w = .ok v' w') (h : K (a.put dst v') w') :
    if Region.wanted o (yielded ops a.tmps) = true then Oper.wp Tryz.prog o a w K Q else E := by
  have hw : Region.wanted o (yielded ops a.tmps) = true := by simp [Region.wanted, hgd]
  rw [if_pos hw]
  exact Lib.wp_append_run w s x t tn ho vs vx hs hx v' w' hr (by rw [hd]; exact h)
set_option maxRecDepth 100000 in
theorem eall_nil (w : World) : Calls Tryz.prog 97 #[.pointer none] w fun e w' => e = .returned (.slice none 0 0) ∧ w = w' := by
  go_enter Tryz.func97, Tryz.ntmps97
  go_wp2_with (go_at_call 131; refine (evalid_nil _).mono ?_; rintro e w' ⟨rfl, rfl⟩)
  go_ret
  exact ⟨rfl, rfl⟩
set_option maxRecDepth 100000 in
set_option maxHeartbeats 4000000 in
theorem eall_ok (q c d g : Nat) (D : Dk) (w : World) (h : QW w q c d g D) : Calls Tryz.prog 97 #[.pointer (some ⟨q, 0, none⟩)] w (NewO D.all w) := by
  obtain ⟨_, c0, c1, _⟩ := h.cells
  have TK := Lib.hid (rtaken_ok c d D.t w h.tab)
  have HT : Hid (∀ j r, D.t.now[j]? = some r → D.all.take (j + 1) = D.all.take j ++ [lro r]) := fun j r => Dk.all_take
  have HG : Hid (∀ (j : Nat) (r : Nat × Nat), D.t.now[j]? = some r → r.1 ≤ 255 ∧ r.2 ≤ 4294967295) := fun j (r : Nat × Nat) hr => by
    obtain ⟨a1, _, a3⟩ := Tb.now_at hr
    have := h.ok.hi
    have := h.ok.t.gm r.1
    omega
  obtain ⟨m, hm⟩ : ∃ m, D.t.now.length = m := ⟨_, rfl⟩
  have hm64 : m ≤ 64 := by have := Tb.now_len D.t; have := h.ok.hi; have := sel_len D.t.s 1 D.t.n; unfold Tb.held at *; omega
  have HM : Hid (D.all.length = m) := by unfold Hid; rw [Dk.all_len, ← Tb.now_len]; exact hm
  have HN := Lib.hid hm
  have O0 : Hid (∀ W V : World, W.ownsRow V.heap.size 25 3 (.slice none 0 0) (D.all.take 0).length (ocls (D.all.take 0))) := fun _ _ => World.ownsRow_nil _ _ _ _
  have hmz : (m : Int) ≤ 64 := by omega
  clear h
  go_enter Tryz.func97, Tryz.ntmps97
  go_wp2_with (first
    | (go_at_call 131; refine (evalid_yes _ _ c0).mono ?_; rintro e w' ⟨rfl, rfl⟩)
    | (go_at_call 135; refine TK.out.mono ?_; rintro e w2 ⟨a, cc, rfl, hs, hb⟩; rw [hm] at hs ⊢; have RS := Lib.hid hs; have HB := Lib.hid hb; clear hs hb))
  go_loopw [3, 5] (fun v u wr => ∃ (j : Nat) (p : Option Addr) (c' : Nat), j ≤ m ∧ v = .slice p j c' ∧ u = .int .i64 j ∧ Hid (wr.ownsRow w2.heap.size 25 3 (.slice p j c') (D.all.take j).length (ocls (D.all.take j))) ∧ Hid (Below w2.heap.size w2 wr)) (fun _ u _ => m - (intOf u).toNat)
  case atStart => exact ⟨0, none, 0, Nat.zero_le _, rfl, rfl, O0.out _ _, Below.refl _ _⟩
  case round =>
    clear O0
    obtain ⟨j, p, c', hj, rfl, rfl, HO, HB2⟩ := hrel
    by_cases hlt : j < m
    · obtain ⟨r, hr⟩ : ∃ r, D.t.now[j]? = some r := ⟨_, List.getElem?_eq_getElem (by rw [HN.out]; exact hlt)⟩
      obtain ⟨b1, b2⟩ := HG.out j r hr
      obtain ⟨gs, rfl, s1, s2, s3⟩ := (RS.out.below HB2.out).at hr
      have NX := Lib.hid (HT.out j r hr)
      obtain ⟨i, z⟩ := r
      simp only at b1 b2 s2 s3
      have hjz : (j : Int) < m := by omega
      have HJ : Hid ((D.all.take j).length = j) := by unfold Hid; rw [List.length_take, HM.out]; omega
      have hb2 : w2.heap.size ≤ wr.heap.size := HB2.out.size
      obtain ⟨p2, c2, w8, hrun, hA⟩ := app_o (W := (wr.alloc (.cells #[.int .i64 3, .int .i64 i, .int .u32 z] 25)).drew) (base := w2.heap.size) (x := wr.heap.size) (r := ⟨3, i, z⟩) HJ.out (HO.out.alloc _ |> fun h => own_same h fun _ _ => rfl) ((Bk.new wr 25 #[.int .i64 3, .int .i64 i, .int .u32 z]).same rfl) (by rw [HJ.out]; omega) (by simp; omega)
      have HA := Lib.hid hA
      clear hA hr
      go_wp2
      have HR := Lib.hid hrun
      have HF : Hid (w8.ownsRow w2.heap.size 25 3 (.slice p2 (j + 1) c2) (D.all.take (j + 1)).length (ocls (D.all.take (j + 1))) ∧ Below w2.heap.size w2 w8) := by
        obtain ⟨h1, h2⟩ := HA.out
        rw [← show D.all.take (j + 1) = D.all.take j ++ [⟨3, (i : Int), (z : Int)⟩] from NX.out] at h1
        have hw1 : Below wr.heap.size wr (wr.alloc (.cells #[.int .i64 3, .int .i64 i, .int .u32 z] 25)).drew := bel_drew (bal _ _)
        exact ⟨h1, (HB2.out.trans (hw1.mono hb2)).trans (h2.below (by simp; omega) fun g e => (HO.out.lt g e).1)⟩
      clear HA
      go_region_law (refine step_append_run (by rfl) (some 33) (by rfl) _ _ _ _ (by rfl) _ _ (by rfl) (by rfl) _ _ HR.out ?_)
      all_goals
        go_wp2
        go_roundw
        case rel => exact ⟨j + 1, p2, c2, by omega, rfl, by go_num, HF.out.1, HF.out.2⟩
        case measure => simp [intOf]; omega
    · obtain rfl : j = m := by omega
      go_wp2
      go_ret
      have ho := HO.out
      rw [List.take_of_length_le (by rw [HM.out]; exact Nat.le_refl _)] at ho
      have hq := HM.out
      subst hq
      exact ⟨p, c', rfl, own_lower ho HB.out.size, HB.out.trans (HB2.out.mono HB.out.size)⟩
end Go.Proofs.YtpinmiplefidpaaGreatDoor.LS

namespace Go.Proofs.YtpinmiplefidpaaGreatDoor.LS
open Go.RowKit
open Go.Proofs.YtpinmiplefidpaaGreatDoor.SR


/-! ### New -/
theorem info_i64 : (Tryz.prog.info? 2).map (fun i => (i.zero, i.size, i.bytes)) = some (some (.int .i64 0), 1, 8) := by kernel_rfl
def lmade (n : Nat) : Array Value := madeCells #[.int .i64 0] n
theorem lmade_size (n : Nat) : (lmade n).size = n := size_madeCells _ _
theorem lmade_at {n i : Nat} (h : i < n) : (lmade n)[i]? = some (.int .i64 0) := by
  have := toList_madeCells_one (.int .i64 0) n
  unfold lmade
  rw [← Array.getElem?_toList, this]; simp [h]
theorem make_l (m : Nat) (hm : m ≤ 64) (W : World) : (Instr.makeSlice 180 (.int .i64 m) (.int .i64 m)).run Tryz.prog W = .ok (.slice (some ⟨W.heap.size, 0, none⟩) m m) (W.alloc (.cells (lmade m) 2)) := by
  obtain ⟨i0, hi, hz0, hz1, hz2⟩ := info_parts info_i64
  have := run_make (P := Tryz.prog) W 180 2 i0 _ Tryz.underlying180 hi hz0 .i64 .i64 m m (by omega) (by omega) (by rw [hz2]; omega) (by omega)
  rw [this, hz1]
  simp [lmade, Value.cells]
/-- A new desk of the document's. -/
def ENew (D : Dk) (w : World) (q : Nat) (w' : World) : Prop := ∃ c d g, QW w' q c d g D ∧ (∀ z, QFt q c d g z → w.heap.size ≤ z) ∧ Below w.heap.size w w'
set_option maxRecDepth 100000 in
theorem enew_bad (n f : Int) (w : World) (h : n < 1 ∨ 64 < n ∨ f = 0) : Calls Tryz.prog 59 #[.int .i64 n, .int .u32 f] w fun e w' => e = .returned (.tuple #[.pointer none, .int .i64 2]) ∧ w = w' := by
  by_cases c : n < 1
  · clear h
    go_enter Tryz.func59, Tryz.ntmps59
    go_wp2
    go_ret2
    exact ⟨rfl, rfl⟩
  by_cases c1 : 64 < n
  · clear h
    go_enter Tryz.func59, Tryz.ntmps59
    go_wp2
    go_ret2
    exact ⟨rfl, rfl⟩
  obtain rfl : f = 0 := by omega
  have R := Lib.hid (rnew_arg2 n w (by omega) (by omega))
  clear h
  go_enter Tryz.func59, Tryz.ntmps59
  go_wp2_with (go_at_call 105; refine R.out.mono ?_; rintro e w' ⟨rfl, rfl⟩)
  go_ret2
  exact ⟨rfl, rfl⟩
set_option maxHeartbeats 1000000 in
set_option maxRecDepth 100000 in
theorem enew_ok (n f : Nat) (w : World) (h1 : 1 ≤ n) (h2 : n ≤ 64) (h3 : 1 ≤ f) (h4 : f ≤ 4294967295) : Calls Tryz.prog 59 #[.int .i64 n, .int .u32 f] w fun e w' => ∃ q, e = .returned (.tuple #[.pointer (some ⟨q, 0, none⟩), .int .i64 0]) ∧ Hid (ENew (dfresh n f) w q w') := by
  have R := Lib.hid (rnew_ok n f w h1 (by omega) h3 h4)
  have hmk := make_l n h2
  have HH := Lib.hid (And.intro h1 (And.intro h2 (And.intro h3 h4)))
  have n1 : (1 : Int) ≤ n := by omega
  have n2 : (n : Int) ≤ 64 := by omega
  clear h1 h2 h3 h4
  go_enter Tryz.func59, Tryz.ntmps59
  go_wp2_with (first
    | (go_at_call 105; refine R.out.mono ?_; rintro e w2 ⟨c, d, rfl, k1, k2, k3, k4⟩; have K := Lib.hid (And.intro k1 (And.intro k2 (And.intro k3 k4))); clear k1 k2 k3 k4))
  go_ret2
  obtain ⟨k1, k2, k3, k4⟩ := K.out
  obtain ⟨h1, h2, h3, h4⟩ := HH.out
  refine ⟨_, rfl, c, d, w2.heap.size, ⟨dfresh_ok h1 h2 h3 h4, (k3.below (bal w2 _)).below (bal _ _), n, lmade n, ?_, (Bk.new w2 _ _).up _, lmade_size n, Nat.le_refl _, by unfold maxLen; omega, fun i hi => lmade_at hi⟩, ?_, bel2 (bel2 k4 (bal w2 _)) (bal _ _)⟩
  · have := Bk.new (w2.alloc (.cells (lmade n) 2)) 182 #[.bool true, .pointer (some ⟨c, 0, none⟩), .slice (some ⟨w2.heap.size, 0, none⟩) n n]
    rw [World.size_alloc] at this
    exact this
  · rintro z (rfl | rfl | rfl | rfl)
    · have := k4.size; simp; omega
    · exact k1
    · exact k2
    · exact k4.size
end Go.Proofs.YtpinmiplefidpaaGreatDoor.LS

namespace Go.Proofs.YtpinmiplefidpaaGreatDoor.LS
open Go.RowKit
open Go.Proofs.YtpinmiplefidpaaGreatDoor.SR

def usf (u : Nat → Nat) (n : Nat) : List Value := (List.range n).map fun i => .int .i64 (u i)
theorem usf_len (u : Nat → Nat) (n : Nat) : (usf u n).length = n := by simp [usf]
theorem usf_at (u : Nat → Nat) {n i : Nat} (h : i < n) : (usf u n)[i]? = some (.int .i64 (u i)) := by simp [usf, h]
/-- The times appended to a new empty slice. -/
theorem app_all {W : World} {base x n cap g : Nat} {u : Nat → Nat} (ho : W.ownsRow base 2 1 (.slice (some ⟨x, 0, none⟩) 0 0) 0 []) (hs : ∀ i, i < n → W.cell? ⟨g, i, none⟩ = some (.int .i64 (u i))) (h0 : 0 < n) (hn : n ≤ 64) (hb : base ≤ W.heap.size) :
    ∃ p c W', (Builtin.append_ #[180, 180] 180 #[.slice (some ⟨x, 0, none⟩) 0 0, .slice (some ⟨g, 0, none⟩) n cap]).run Tryz.prog W = .ok (.slice p n c) W' ∧ W'.ownsRow base 2 1 (.slice p n c) n (usf u n) ∧ Kept (fun g => x = g) W W' := by
  obtain ⟨j0, hj, hy0, hy1, hy2⟩ := info_parts info_i64
  obtain ⟨v', W', hr, hown, hgr, _⟩ := run_append_own (P := Tryz.prog) (w := W) base 180 180 2 j0 _ 1 8 Tryz.underlying180 hj hy0 hy1 hy2 rfl (by decide) (.slice (some ⟨x, 0, none⟩) 0 0) 0 [] ho
    ⟨g, 0, none⟩ n cap (usf u n) (by rw [usf_len, Nat.mul_one]) (fun j v hj => by
      have e : (⟨g, 0, none⟩ : Addr).add j = ⟨g, j, none⟩ := by unfold Addr.add; split <;> simp_all
      have hjl := (List.getElem?_eq_some_iff.1 hj).1
      rw [usf_len] at hjl
      rw [usf_at u hjl] at hj
      rw [e, hs j hjl]; exact hj) (fun v hv => by
      unfold usf at hv
      obtain ⟨i, _, rfl⟩ := List.mem_map.1 hv
      rfl) (by unfold maxLen; omega) (by omega) hb
  have ho2 : W'.ownsRow base 2 1 v' n (usf u n) := by simpa using hown
  obtain ⟨p, c, rfl⟩ := own_form ho2
  exact ⟨p, c, W', hr, ho2, ⟨hgr.os, hgr.tape, hgr.output, hgr.size, fun k hk hs => hgr.block k hk fun e => hs (Eq.symm (by simpa [Value.ownBlock] using e))⟩⟩
set_option maxRecDepth 100000 in
theorem ecopy_nil (w : World) : Calls Tryz.prog 89 #[.pointer none] w fun e w' => e = .returned (.pointer none) ∧ w = w' := by
  go_enter Tryz.func89, Tryz.ntmps89
  go_wp2_with (go_at_call 131; refine (evalid_nil _).mono ?_; rintro e w' ⟨rfl, rfl⟩)
  go_ret
  exact ⟨rfl, rfl⟩
/-- What the copy is made of. -/
def Mk (w : World) (D : Dk) (c d : Nat) (v : Value) (W : World) : Prop := RefW W c d D.t ∧ w.heap.size ≤ c ∧ w.heap.size ≤ d ∧ W.ownsRow w.heap.size 2 1 v D.t.n (usf D.u D.t.n) ∧ Below w.heap.size w W
theorem copy_made {w W : World} {D : Dk} {c d : Nat} {p : Option Addr} {cp n : Nat} (ho : D.Ok) (hn : D.t.n = n) (h : Mk w D c d (.slice p n cp) W) : ENew D w W.heap.size (W.alloc (.cells #[.bool true, .pointer (some ⟨c, 0, none⟩), .slice p n cp] 182)) := by
  subst hn
  obtain ⟨h1, h2, h3, h4, h5⟩ := h
  have hlo := ho.t.lo
  rcases h4.2 with ⟨e, h0⟩ | ⟨g, cap, cur, e, k1, k2, k3, k4, k5, k6⟩
  · omega
  · injection e with e1 e2 e3
    subst e1 e3
    refine ⟨c, d, g, ⟨ho, h1.below (bal _ _), cp, cur, Bk.new W _ _, Bk.up k2 _, by simpa using k5, by simpa using k3, k4, fun i hi => ?_⟩, ?_, bel2 h5 (bal _ _)⟩
    · have := usf_at D.u hi
      rw [← k6, List.getElem?_take_of_lt (by omega), Array.getElem?_toList] at this
      exact this
    · rintro z (rfl | rfl | rfl | rfl)
      · exact h5.size
      · exact h2
      · exact h3
      · exact k1
set_option maxRecDepth 100000 in
set_option maxHeartbeats 2000000 in
theorem ecopy_ok (q c d g : Nat) (D : Dk) (w : World) (h : QW w q c d g D) : Calls Tryz.prog 89 #[.pointer (some ⟨q, 0, none⟩)] w fun e w' => ∃ q', e = .returned (.pointer (some ⟨q', 0, none⟩)) ∧ Hid (ENew D w q' w') := by
  obtain ⟨cap, c0, c1, c2, hc1, hc2⟩ := h.cells
  have hql : q < w.heap.size := World.block_lt_of_cell? _ _ c0
  have hn64 := h.ok.hi
  have hlo := h.ok.t.lo
  obtain ⟨n, hn⟩ : ∃ n, D.t.n = n := ⟨_, rfl⟩
  rw [hn] at c2 hc1 hn64 hlo
  have HN := Lib.hid hn
  have HO := Lib.hid h.ok
  have SRC : Hid (∀ W, Below w.heap.size w W → ∀ i, i < n → W.cell? ⟨g, i, none⟩ = some (.int .i64 (D.u i))) := fun W hW i hi => ((h.below hW).ci (by rw [hn]; exact hi)).1
  have CP1 : Hid (Calls Tryz.prog 132 #[.pointer (some ⟨c, 0, none⟩)] w.drew (RCpV D.t w.drew)) := rcopy_ok c d D.t _ (h.tab.same rfl rfl)
  have CP2 : Hid (Calls Tryz.prog 132 #[.pointer (some ⟨c, 0, none⟩)] (w.alloc (.cells #[] 2)).drew (RCpV D.t (w.alloc (.cells #[] 2)).drew)) := rcopy_ok c d D.t _ ((h.tab.below (bal _ _)).same rfl rfl)
  have LA : Hid (∀ w5 c' d', w.heap.size ≤ c' → w.heap.size ≤ d' → RefW w5 c' d' D.t → Below w.heap.size w w5 → ∀ x, w.heap.size ≤ x → (∀ W, W = w5 ∨ W = w5.alloc (.cells #[] 2) → W.ownsRow x 2 1 (.slice (some ⟨x, 0, none⟩) 0 0) 0 [] → c' ≠ x → d' ≠ x → ∃ p8 c8 w8, (Builtin.append_ #[180, 180] 180 #[.slice (some ⟨x, 0, none⟩) 0 0, .slice (some ⟨g, 0, none⟩) n cap]).run Tryz.prog W = .ok (.slice p8 n c8) w8 ∧ Hid (Mk w D c' d' (.slice p8 n c8) w8) ∧ w8.cell? ⟨q, 1, none⟩ = some (.pointer (some ⟨c, 0, none⟩)) ∧ w8.cell? ⟨q, 2, none⟩ = some (.slice (some ⟨g, 0, none⟩) n cap))) := fun w5 c' d' k1 k2 k3 k4 x hx W hW ho h1 h2 => by
    have hWW : Below w5.heap.size w5 W := by
      rcases hW with rfl | rfl
      · exact Below.refl _ _
      · exact bal _ _
    have hw : Below w.heap.size w W := bel2 k4 hWW
    obtain ⟨p8, c8, w8, hr, ho8, hk8⟩ := app_all (cap := cap) ho (SRC.out W hw) hlo hn64 (by have := (ho.lt x rfl).2; omega)
    have hk : Below w.heap.size W w8 := hk8.below hw.size (by rintro z rfl; exact hx)
    have hw8 : Below w.heap.size w w8 := hw.trans hk
    have hr5 := k3.below hWW
    refine ⟨p8, c8, w8, hr, ⟨hr5.kept hk8 (fun e => h1 e.symm) (fun e => h2 e.symm), k1, k2, ?_, hw8⟩, cell_keeps hw8 c1, cell_keeps hw8 c2⟩
    rw [HN.out]
    exact own_lower ho8 hx
  have LA1 : Hid (∀ w5 c' d', w.drew.heap.size ≤ c' → w.drew.heap.size ≤ d' → RefW w5 c' d' D.t → Below w.drew.heap.size w.drew w5 → ∃ p8 c8 w8, (Builtin.append_ #[180, 180] 180 #[.slice (some ⟨w5.heap.size, 0, none⟩) 0 0, .slice (some ⟨g, 0, none⟩) n cap]).run Tryz.prog (w5.alloc (.cells #[] 2)) = .ok (.slice p8 n c8) w8 ∧ Hid (Mk w D c' d' (.slice p8 n c8) w8) ∧ w8.cell? ⟨q, 1, none⟩ = some (.pointer (some ⟨c, 0, none⟩)) ∧ w8.cell? ⟨q, 2, none⟩ = some (.slice (some ⟨g, 0, none⟩) n cap)) := fun w5 c' d' k1 k2 k3 k4 => by
    have k5 : Below w.heap.size w w5 := bel2 (bel_drew (Below.refl _ _)) k4
    have hc' := k3.ct
    have hd' := k3.dt
    exact LA.out w5 c' d' k1 k2 k3 k5 w5.heap.size k5.size _ (.inr rfl) (World.ownsRow_lit w5 #[] 0 (Nat.le_refl _) (by decide) rfl) (by omega) (by omega)
  have LA2 : Hid (∀ w5 c' d', (w.alloc (.cells #[] 2)).drew.heap.size ≤ c' → (w.alloc (.cells #[] 2)).drew.heap.size ≤ d' → RefW w5 c' d' D.t → Below (w.alloc (.cells #[] 2)).drew.heap.size (w.alloc (.cells #[] 2)).drew w5 → ∃ p8 c8 w8, (Builtin.append_ #[180, 180] 180 #[.slice (some ⟨w.heap.size, 0, none⟩) 0 0, .slice (some ⟨g, 0, none⟩) n cap]).run Tryz.prog w5 = .ok (.slice p8 n c8) w8 ∧ Hid (Mk w D c' d' (.slice p8 n c8) w8) ∧ w8.cell? ⟨q, 1, none⟩ = some (.pointer (some ⟨c, 0, none⟩)) ∧ w8.cell? ⟨q, 2, none⟩ = some (.slice (some ⟨g, 0, none⟩) n cap)) := fun w5 c' d' k1 k2 k3 k4 => by
    have k5 : Below w.heap.size w w5 := bel2 (bel_drew (bal w (.cells #[] 2))) k4
    have s1 : w.heap.size < (w.alloc (.cells #[] 2)).drew.heap.size := by simp
    exact LA.out w5 c' d' (by omega) (by omega) k3 k5 w.heap.size (Nat.le_refl _) _ (.inl rfl) (own_below (w := (w.alloc (.cells #[] 2)).drew) (own_same (World.ownsRow_lit w #[] 0 (Nat.le_refl _) (by decide) rfl) fun _ _ => rfl) k4) (by omega) (by omega)
  have HZ : Hid (∀ w5, Below w.drew.heap.size w.drew w5 → w5.cell? ⟨q, 1, none⟩ = some (.pointer (some ⟨c, 0, none⟩)) ∧ w5.cell? ⟨q, 2, none⟩ = some (.slice (some ⟨g, 0, none⟩) n cap)) := fun w5 k4 => by
    have k5 : Below w.heap.size w w5 := bel2 (bel_drew (Below.refl _ _)) k4
    exact ⟨cell_keeps k5 c1, cell_keeps k5 c2⟩
  have HZ2 : Hid (∀ w5, Below (w.alloc (.cells #[] 2)).drew.heap.size (w.alloc (.cells #[] 2)).drew w5 → w5.cell? ⟨q, 1, none⟩ = some (.pointer (some ⟨c, 0, none⟩)) ∧ w5.cell? ⟨q, 2, none⟩ = some (.slice (some ⟨g, 0, none⟩) n cap)) := fun w5 k4 => by
    have k5 : Below w.heap.size w w5 := bel2 (bel_drew (bal w (.cells #[] 2))) k4
    exact ⟨cell_keeps k5 c1, cell_keeps k5 c2⟩
  clear h hn LA SRC
  go_enter Tryz.func89, Tryz.ntmps89
  go_wp2_with (go_at_call 131; refine (evalid_yes _ _ c0).mono ?_; rintro e w' ⟨rfl, rfl⟩)
  go_region_held3 (fun W => W.cell? ⟨q, 1, none⟩ = some (.pointer (some ⟨c, 0, none⟩)) ∧ W.cell? ⟨q, 2, none⟩ = some (.slice (some ⟨g, 0, none⟩) n cap)) (first | (with_reducible exact hz2) | (with_reducible exact hz1) | (exact ⟨c1, c2⟩) | go_keep) (first
    | (go_at_call 132; (with_reducible refine CP1.out.mono ?_); rintro e w5 ⟨c', d', rfl, k1, k2, k3, k4⟩; obtain ⟨p8, c8, w8, hrun, HMK, hz2⟩ := LA1.out w5 c' d' k1 k2 k3 k4; have HR := Lib.hid hrun; have hz1 := HZ.out w5 k4; clear hrun k1 k2 k3 k4)
    | (go_at_call 132; (with_reducible refine CP2.out.mono ?_); rintro e w5 ⟨c', d', rfl, k1, k2, k3, k4⟩; obtain ⟨p8, c8, w8, hrun, HMK, hz2⟩ := LA2.out w5 c' d' k1 k2 k3 k4; have HR := Lib.hid hrun; have hz1 := HZ2.out w5 k4; clear hrun k1 k2 k3 k4)
    | (refine step_append_run (by rfl) (some 16) (by rfl) _ _ _ _ (by rfl) _ _ (by rfl) (by rfl) _ _ HR.out ?_))
  all_goals
    go_wp2
    go_ret
    exact ⟨_, rfl, copy_made HO.out HN.out HMK.out⟩
end Go.Proofs.YtpinmiplefidpaaGreatDoor.LS
