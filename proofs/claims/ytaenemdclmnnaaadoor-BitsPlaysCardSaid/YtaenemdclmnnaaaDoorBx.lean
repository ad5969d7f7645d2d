/- The contracts of the helpers made and listed, that the statements about sets share. -/
import Derived.Test.YtaenemdclmnnaaaDoorBw
namespace Go.Proofs.YtaenemdclmnnaaaDoor
open Go.RowKit

/-- Block h holds n answers, f's. -/
def Bl (w : World) (h n : Nat) (f : Nat → Bool) : Prop := ∃ cur, Bk w h 4 cur ∧ n ≤ cur.size ∧ ∀ i, i < n → cur[i]? = some (.bool (f i))
section
variable {w w' : World} {h n : Nat} {f f' : Nat → Bool}
theorem Bl.lt (a : Bl w h n f) : h < w.heap.size := by obtain ⟨_, h1, _⟩ := a; exact h1.lt
theorem Bl.same (a : Bl w h n f) (e : w'.heap[h]? = w.heap[h]?) : Bl w' h n f := by obtain ⟨cur, h1, h2⟩ := a; exact ⟨cur, h1.same e, h2⟩
theorem Bl.below (a : Bl w h n f) (k : Below w.heap.size w w') : Bl w' h n f := a.same (k.block h a.lt)
theorem Bl.kept {S : Nat → Prop} (a : Bl w h n f) (k : Kept S w w') (hs : ¬ S h) : Bl w' h n f := a.same (k.block h a.lt hs)
theorem Bl.val (a : Bl w h n f) {i : Nat} (hi : i < n) : w.cell? ⟨h, i, none⟩ = some (.bool (f i)) := by obtain ⟨cur, h1, _, h2⟩ := a; rw [h1.cell]; exact h2 i hi
theorem Bl.fz (a : Bl w h n f) (i : Nat) : w.frozen? ⟨h, i, none⟩ = false := by obtain ⟨cur, h1, _⟩ := a; exact h1.frozen i
theorem Bl.put (a : Bl w h n f) {j : Nat} (hj : j < n) (v : Bool) : Bl (w.setCell ⟨h, j, none⟩ (.bool v)) h n (upd f j v) := by
  obtain ⟨cur, h1, h2, h3⟩ := a
  refine ⟨cur.setIfInBounds j (.bool v), h1.put j _, by simpa using h2, fun i hi => ?_⟩
  rw [Array.getElem?_setIfInBounds]
  by_cases e : j = i
  · subst e; rw [if_pos rfl, if_pos (by omega), upd_same]
  · rw [if_neg e, h3 i hi, upd_other (fun x => e x.symm)]
theorem Bl.congr (a : Bl w h n f) (e : ∀ i, i < n → f i = f' i) : Bl w h n f' := by obtain ⟨cur, h1, h2, h3⟩ := a; exact ⟨cur, h1, h2, fun i hi => by rw [h3 i hi, e i hi]⟩
end
theorem Bl.made (w : World) (n : Nat) : Bl (w.alloc (.cells (made_ (.bool false) n) 4)) w.heap.size n (fun _ => false) :=
  ⟨_, Bk.new _ _ _, by rw [made_size]; exact Nat.le_refl _, fun i hi => made_at _ hi⟩

/-! ### listed -/
set_option maxRecDepth 100000 in
set_option maxHeartbeats 1000000 in
theorem listed_ok (h n c : Nat) (f : Nat → Bool) (w : World) (hn : n ≤ 4096) (hb : Bl w h n f) :
    Calls Tryd.prog 32 #[.slice (some ⟨h, 0, none⟩) n c] w (AllV (lst f n) w) := by
  obtain ⟨i0, hi, hz0, hz1, hz2⟩ := info_parts info_int
  have HB := Lib.hid hb
  clear hb
  go_enter Tryd.func32, Tryd.ntmps32
  go_wp2
  go_loopw [3, 8] (fun v i wr => ∃ k : Nat, k ≤ n ∧ i = .int .i64 k ∧ Hid (wr.ownsRow w.heap.size 3 1 v (lst f k).length (ints (lst f k))) ∧ Hid (v = .slice none 0 0 ↔ lst f k = []) ∧ Hid (Below w.heap.size w wr)) (fun _ i _ => n - (intOf i).toNat)
  case atStart => exact ⟨0, Nat.zero_le _, rfl, World.ownsRow_nil _ _ _ _, by simp [lst, Hid], Below.refl _ _⟩
  case round =>
    obtain ⟨k, hk, rfl, HO, HN, HBE⟩ := hrel
    by_cases hlt : k < n
    · have hval := (HB.out.below HBE.out).val hlt
      have hsn := lst_snoc f k
      have hll := lst_len f k
      have hsz := HBE.out.size
      have hown := HO.out
      cases hfk : f k
      · rw [hfk] at hval hsn
        rw [if_neg (by decide), List.append_nil] at hsn
        have HSN := Lib.hid hsn
        clear hsn hfk hown
        go_wp2
        go_roundw
        case rel => exact ⟨k + 1, by omega, by go_num, by rw [HSN.out]; exact HO.out, by rw [HSN.out]; exact HN.out, HBE.out⟩
        case measure => simp [intOf]; omega
      · rw [hfk] at hval hsn
        rw [if_pos rfl] at hsn
        have HSN := Lib.hid hsn
        clear hsn hfk
        generalize lst f k = L at *
        go_wp2_with (at_builtin; refine wpList_append_own _ rfl _ _ 48 rfl w.heap.size 3 i0 (.int .i64 0) 1 8 Tryd.underlying48 hi hz0 hz1 hz2 rfl (by decide) _ _ _ rfl (hown.alloc _) ⟨wr.heap.size, 0, none⟩ 1 1 [.int .i64 (k : Int)] rfl rfl ?c1 ?c2 ?c3 ?c4 ?c5 ?_)
        case c1 =>
          intro j u hj
          match j, hj with
          | 0, hj => simp at hj; subst hj; simp [Addr.add]
        case c2 => intro u hu; simp at hu; subst hu; rfl
        case c3 => unfold maxLen; omega
        case c4 => omega
        case c5 => simp; omega
        intro v' w2 hown' hgrow hnil
        have HB2 := Lib.hid ((HBE.out.alloc hsz _).grown hgrow (by simp; omega) (fun q hq => (hown.lt q hq).1))
        have HO2 : Hid (w2.ownsRow w.heap.size 3 1 v' (L ++ [k]).length (ints (L ++ [k]))) := by
          unfold Hid; simpa [ints] using hown'
        have HN2 : Hid (v' = .slice none 0 0 ↔ L ++ [k] = []) := by
          unfold Hid
          constructor
          · intro e; exact absurd e (by simpa using hnil)
          · intro e; simp at e
        clear hown' hgrow hown hnil
        go_wp2
        go_roundw
        case rel => exact ⟨k + 1, by omega, by go_num, by rw [HSN.out]; exact HO2.out, by rw [HSN.out]; exact HN2.out, HB2.out⟩
        case measure => simp [intOf]; omega
    · obtain rfl : k = n := by omega
      go_wp2
      go_ret
      exact ⟨_, rfl, HO.out, HN.out, HBE.out⟩

/-! ### made -/
/-- The numbers c 0, .., c (k - 1), modulo n. -/
def acc (c : Nat → Nat) (n : Nat) : Nat → Nat → Bool
  | 0 => fun _ => false
  | k + 1 => upd (acc c n k) (c k % n) true
theorem acc_out (c : Nat → Nat) {n : Nat} (hn : 0 < n) : ∀ k i, n ≤ i → acc c n k i = false
  | 0, _, _ => rfl
  | k + 1, i, hi => by
    unfold acc
    have := Nat.mod_lt (c k) hn
    rw [upd_other (by omega)]; exact acc_out c hn k i hi

def MadeV (n : Nat) (F : Nat → Bool) (w : World) (e : Ending) (w' : World) : Prop :=
  ∃ b g h, w.heap.size ≤ b ∧ w.heap.size ≤ g ∧ b < h ∧ g < h ∧ e = .returned (.tuple #[.pointer (some ⟨b, 0, none⟩), .slice (some ⟨h, 0, none⟩) n n, .bool true]) ∧ SetW w' b g n F ∧ Bl w' h n F ∧ Below w.heap.size w w'

/-- What the parameter l holds: its address, its length, its numbers (of 16 bits). -/
structure U16s (w : World) (a : Option Addr) (len cap : Nat) (c : Nat → Nat) : Prop where
  le : len ≤ cap
  capB : cap ≤ 9223372036854775807
  at_ : 0 < len → ∃ b off, a = some ⟨b, off, none⟩ ∧ b < w.heap.size ∧ ∀ j, j < len → w.cell? ⟨b, off + j, none⟩ = some (.int .u16 (c j : Int))
  lt : ∀ j, j < len → c j < 65536
  nil_ : a = none → cap = 0
theorem U16s.below {w w' : World} {a : Option Addr} {len cap : Nat} {c : Nat → Nat} (h : U16s w a len cap c) (hb : Below w.heap.size w w') : U16s w' a len cap c :=
  ⟨h.le, h.capB, fun h0 => by obtain ⟨b, off, e, h1, h2⟩ := h.at_ h0; exact ⟨b, off, e, Nat.lt_of_lt_of_le h1 hb.size, fun j hj => (hb.cell (p := ⟨b, off + j, none⟩) h1).trans (h2 j hj)⟩, h.lt, h.nil_⟩

structure MSt (w0 w : World) (b g h n : Nat) (F : Nat → Bool) : Prop where
  s : SetW w b g n F
  l : Bl w h n F
  bel : Below w0.heap.size w0 w
  x1 : w0.heap.size ≤ b
  x2 : w0.heap.size ≤ g
  x3 : b < h
  x4 : g < h

theorem MSt.step {w0 w : World} {b g h n j : Nat} {F : Nat → Bool} (a : MSt w0 w b g h n F) (hj : j < n) :
    Calls Tryd.prog 13 #[.pointer (some ⟨b, 0, none⟩), .int .i64 (j : Int)] (w.setCell ⟨h, j, none⟩ (.bool true)) fun e w' => e = .returned (.int .i64 0) ∧ Hid (MSt w0 w' b g h n (upd F j true)) := by
  have hk : Kept (· = h) w (w.setCell ⟨h, j, none⟩ (.bool true)) := (Kept.refl (· = h) w).put1 j _
  have x3 := a.x3
  have x4 := a.x4
  have hs := a.s.kept hk (by omega) (by omega)
  have hl := a.l.put hj true
  refine (add_in b g n F j _ hs hj).mono ?_
  rintro e w' ⟨h1, h2, h3⟩
  exact ⟨h1, h2, hl.kept h3 (by omega), (a.bel.trans (kept_below hk a.bel.size (by have := a.x1; omega))).trans (kept_below h3 (by have := a.bel.size; simpa using this) a.x2), a.x1, a.x2, a.x3, a.x4⟩

set_option maxRecDepth 100000 in
set_option maxHeartbeats 4000000 in
theorem made_lt (n : Nat) (a : Option Addr) (len cap : Nat) (c : Nat → Nat) (w : World) (h1 : 1 ≤ n) (h2 : n ≤ 4096) (hu : U16s w a len cap c) (hc : len < 100) :
    Calls Tryd.prog 31 #[.int .i64 n, .slice a len cap] w (MadeV n (acc c n len) w) := by
  have hmk := make_bool n h2
  have HU := Lib.hid hu
  have hle := hu.le
  have hcap := hu.capB
  clear hu
  skip
  go_enter Tryd.func31, Tryd.ntmps31
  go_wp2_with fail
  refine (new_ok n _ h1 h2).mono ?_
  rintro e w1 ⟨b, g, p1, p2, rfl, hs1, hb1⟩
  have ST : Hid (MSt w (w1.alloc (.cells (made_ (.bool false) n) 4)) b g w1.heap.size n (acc c n 0)) :=
    ⟨hs1.below ((Below.refl _ w1).alloc (Nat.le_refl _) _), Bl.made w1 n, bel2 hb1 ((Below.refl _ w1).alloc (Nat.le_refl _) _), p1, p2, hs1.bt, hs1.gt⟩
  clear hs1 hb1 p1 p2
  go_wp2
  obtain ⟨h, hh⟩ : ∃ h, w1.heap.size = h := ⟨_, rfl⟩
  rw [hh] at ST ⊢
  clear hh
  clear hmk
  go_loopw [27] (fun i wr => ∃ k : Nat, k ≤ len ∧ i = .int .i64 k ∧ Hid (MSt w wr b g h n (acc c n k))) (fun i _ => len - (intOf i).toNat)
  case atStart => exact ⟨0, Nat.zero_le _, rfl, ST.out⟩
  case round =>
    obtain ⟨k, hk, rfl, HS⟩ := hrel
    by_cases hlt : k < len
    · obtain ⟨B, off, rfl, hB, hcells⟩ := (HU.out.below HS.out.bel).at_ (by omega)
      have hcx := hcells k (by omega)
      have hx16 := HU.out.lt k (by omega)
      obtain ⟨j, hj⟩ : ∃ j, c k % n = j := ⟨_, rfl⟩
      have hjn : j < n := by rw [← hj]; exact Nat.mod_lt _ (by omega)
      have HACC : Hid (upd (acc c n k) j true = acc c n (k + 1)) := by rw [← hj]; rfl
      generalize c k = x at *
      have e2 : (x : Int) % (n : Int) = (j : Int) := by
        have := congrArg (fun n : Nat => (n : Int)) hj
        simpa using this
      have e1 : (x : Int).tmod (n : Int) = (j : Int) := by rw [Int.tmod_eq_emod_of_nonneg (by omega)]; exact e2
      have hv := HS.out.l.val hjn
      have hf := HS.out.l.fz j
      have HAD := Lib.hid (HS.out.step hjn)
      have HJ := Lib.hid hj
      clear hj hcells
      go_wp2_with fail
      refine HAD.out.mono ?_
      rintro e w5 ⟨rfl, HS5⟩
      clear hv hf hcx e1 e2 HAD
      go_wp2
      go_roundw
      case rel => exact ⟨k + 1, by omega, by go_num, by rw [← HACC.out]; exact HS5.out⟩
      case measure => simp [intOf]; omega
    · obtain rfl : k = len := by omega
      go_wp2
      go_ret3
      exact ⟨b, g, h, HS.out.x1, HS.out.x2, HS.out.x3, HS.out.x4, rfl, HS.out.s, HS.out.l, HS.out.bel⟩
set_option maxRecDepth 100000 in
set_option maxHeartbeats 4000000 in
theorem made_eq (n : Nat) (a : Option Addr) (len cap : Nat) (c : Nat → Nat) (w : World) (h1 : 1 ≤ n) (h2 : n ≤ 4096) (hu : U16s w a len cap c) (hc : len = 100) :
    Calls Tryd.prog 31 #[.int .i64 n, .slice a len cap] w (MadeV n (acc c n 100) w) := by
  have hmk := make_bool n h2
  have HU := Lib.hid hu
  have hle := hu.le
  have hcap := hu.capB
  clear hu
  subst hc
  go_enter Tryd.func31, Tryd.ntmps31
  go_wp2_with fail
  refine (new_ok n _ h1 h2).mono ?_
  rintro e w1 ⟨b, g, p1, p2, rfl, hs1, hb1⟩
  have ST : Hid (MSt w (w1.alloc (.cells (made_ (.bool false) n) 4)) b g w1.heap.size n (acc c n 0)) :=
    ⟨hs1.below ((Below.refl _ w1).alloc (Nat.le_refl _) _), Bl.made w1 n, bel2 hb1 ((Below.refl _ w1).alloc (Nat.le_refl _) _), p1, p2, hs1.bt, hs1.gt⟩
  clear hs1 hb1 p1 p2
  go_wp2
  obtain ⟨h, hh⟩ : ∃ h, w1.heap.size = h := ⟨_, rfl⟩
  rw [hh] at ST ⊢
  clear hh
  clear hmk
  go_loopw [27] (fun i wr => ∃ k : Nat, k ≤ 100 ∧ i = .int .i64 k ∧ Hid (MSt w wr b g h n (acc c n k))) (fun i _ => 100 - (intOf i).toNat)
  case atStart => exact ⟨0, Nat.zero_le _, rfl, ST.out⟩
  case round =>
    obtain ⟨k, hk, rfl, HS⟩ := hrel
    by_cases hlt : k < 100
    · obtain ⟨B, off, rfl, hB, hcells⟩ := (HU.out.below HS.out.bel).at_ (by omega)
      have hcx := hcells k (by omega)
      have hx16 := HU.out.lt k (by omega)
      obtain ⟨j, hj⟩ : ∃ j, c k % n = j := ⟨_, rfl⟩
      have hjn : j < n := by rw [← hj]; exact Nat.mod_lt _ (by omega)
      have HACC : Hid (upd (acc c n k) j true = acc c n (k + 1)) := by rw [← hj]; rfl
      generalize c k = x at *
      have e2 : (x : Int) % (n : Int) = (j : Int) := by
        have := congrArg (fun n : Nat => (n : Int)) hj
        simpa using this
      have e1 : (x : Int).tmod (n : Int) = (j : Int) := by rw [Int.tmod_eq_emod_of_nonneg (by omega)]; exact e2
      have hv := HS.out.l.val hjn
      have hf := HS.out.l.fz j
      have HAD := Lib.hid (HS.out.step hjn)
      have HJ := Lib.hid hj
      clear hj hcells
      go_wp2_with fail
      refine HAD.out.mono ?_
      rintro e w5 ⟨rfl, HS5⟩
      clear hv hf hcx e1 e2 HAD
      go_wp2
      go_roundw
      case rel => exact ⟨k + 1, by omega, by go_num, by rw [← HACC.out]; exact HS5.out⟩
      case measure => simp [intOf]; omega
    · obtain rfl : k = 100 := by omega
      go_wp2
      go_ret3
      exact ⟨b, g, h, HS.out.x1, HS.out.x2, HS.out.x3, HS.out.x4, rfl, HS.out.s, HS.out.l, HS.out.bel⟩
set_option maxRecDepth 100000 in
set_option maxHeartbeats 4000000 in
theorem made_gt (n : Nat) (a : Option Addr) (len cap : Nat) (c : Nat → Nat) (w : World) (h1 : 1 ≤ n) (h2 : n ≤ 4096) (hu : U16s w a len cap c) (hc : 100 < len) :
    Calls Tryd.prog 31 #[.int .i64 n, .slice a len cap] w (MadeV n (acc c n 100) w) := by
  have hmk := make_bool n h2
  have HU := Lib.hid hu
  have hle := hu.le
  have hcap := hu.capB
  clear hu
  skip
  go_enter Tryd.func31, Tryd.ntmps31
  go_wp2_with fail
  refine (new_ok n _ h1 h2).mono ?_
  rintro e w1 ⟨b, g, p1, p2, rfl, hs1, hb1⟩
  have ST : Hid (MSt w (w1.alloc (.cells (made_ (.bool false) n) 4)) b g w1.heap.size n (acc c n 0)) :=
    ⟨hs1.below ((Below.refl _ w1).alloc (Nat.le_refl _) _), Bl.made w1 n, bel2 hb1 ((Below.refl _ w1).alloc (Nat.le_refl _) _), p1, p2, hs1.bt, hs1.gt⟩
  clear hs1 hb1 p1 p2
  go_wp2
  obtain ⟨h, hh⟩ : ∃ h, w1.heap.size = h := ⟨_, rfl⟩
  rw [hh] at ST ⊢
  clear hh
  clear hmk
  go_loopw [27] (fun i wr => ∃ k : Nat, k ≤ 100 ∧ i = .int .i64 k ∧ Hid (MSt w wr b g h n (acc c n k))) (fun i _ => 100 - (intOf i).toNat)
  case atStart => exact ⟨0, Nat.zero_le _, rfl, ST.out⟩
  case round =>
    obtain ⟨k, hk, rfl, HS⟩ := hrel
    by_cases hlt : k < 100
    · obtain ⟨B, off, rfl, hB, hcells⟩ := (HU.out.below HS.out.bel).at_ (by omega)
      have hcx := hcells k (by omega)
      have hx16 := HU.out.lt k (by omega)
      obtain ⟨j, hj⟩ : ∃ j, c k % n = j := ⟨_, rfl⟩
      have hjn : j < n := by rw [← hj]; exact Nat.mod_lt _ (by omega)
      have HACC : Hid (upd (acc c n k) j true = acc c n (k + 1)) := by rw [← hj]; rfl
      generalize c k = x at *
      have e2 : (x : Int) % (n : Int) = (j : Int) := by
        have := congrArg (fun n : Nat => (n : Int)) hj
        simpa using this
      have e1 : (x : Int).tmod (n : Int) = (j : Int) := by rw [Int.tmod_eq_emod_of_nonneg (by omega)]; exact e2
      have hv := HS.out.l.val hjn
      have hf := HS.out.l.fz j
      have HAD := Lib.hid (HS.out.step hjn)
      have HJ := Lib.hid hj
      clear hj hcells
      go_wp2_with fail
      refine HAD.out.mono ?_
      rintro e w5 ⟨rfl, HS5⟩
      clear hv hf hcx e1 e2 HAD
      go_wp2
      go_roundw
      case rel => exact ⟨k + 1, by omega, by go_num, by rw [← HACC.out]; exact HS5.out⟩
      case measure => simp [intOf]; omega
    · obtain rfl : k = 100 := by omega
      go_wp2
      go_ret3
      exact ⟨b, g, h, HS.out.x1, HS.out.x2, HS.out.x3, HS.out.x4, rfl, HS.out.s, HS.out.l, HS.out.bel⟩
theorem made_ok (n : Nat) (a : Option Addr) (len cap : Nat) (c : Nat → Nat) (w : World) (h1 : 1 ≤ n) (h2 : n ≤ 4096) (hu : U16s w a len cap c) :
    Calls Tryd.prog 31 #[.int .i64 n, .slice a len cap] w (MadeV n (acc c n (min len 100)) w) := by
  by_cases h : len < 100
  · rw [Nat.min_eq_left (by omega)]; exact made_lt n a len cap c w h1 h2 hu h
  · rw [Nat.min_eq_right (by omega)]
    by_cases h3 : len = 100
    · exact made_eq n a len cap c w h1 h2 hu h3
    · exact made_gt n a len cap c w h1 h2 hu (by omega)
end Go.Proofs.YtaenemdclmnnaaaDoor
