/- Slices of references; Taken told by what its slice reads as; the helper made, that the statements about tables share. -/
import Derived.Test.YtgdboppdncoieaaSw
namespace Go.Proofs.Ytgdboppdncoieaa
open Go.RowKit

theorem pairs_at : ∀ (l : List (Nat × Nat)) (j : Nat) (r : Nat × Nat), l[j]? = some r → (pairs l)[j * 2]? = some (.int .i64 r.1) ∧ (pairs l)[j * 2 + 1]? = some (.int .u32 r.2)
  | [], j, r, h => by simp at h
  | a :: l, 0, r, h => by
    simp at h; subst h
    simp [pairs]
  | a :: l, j + 1, r, h => by
    simp at h
    have ih := pairs_at l j r h
    have e : pairs (a :: l) = .int .i64 a.1 :: .int .u32 a.2 :: pairs l := rfl
    have e1 : (j + 1) * 2 = j * 2 + 1 + 1 := by omega
    rw [e, e1, List.getElem?_cons_succ, List.getElem?_cons_succ, List.getElem?_cons_succ, List.getElem?_cons_succ]
    exact ih

/-- The slice value v reads as the references l. -/
def Sr (w : World) (v : Value) (l : List (Nat × Nat)) : Prop :=
  ∃ a c, v = .slice a l.length c ∧ (0 < l.length → ∃ g cur, a = some ⟨g, 0, none⟩ ∧ Bk w g 33 cur ∧ ∀ j r, l[j]? = some r → cur[j * 2]? = some (.int .i64 r.1) ∧ cur[j * 2 + 1]? = some (.int .u32 r.2))
theorem Sr.below {w w' : World} {v : Value} {l : List (Nat × Nat)} (h : Sr w v l) (hb : Below w.heap.size w w') : Sr w' v l := by
  obtain ⟨a, c, e, h⟩ := h
  refine ⟨a, c, e, fun h0 => ?_⟩
  obtain ⟨g, cur, e2, hg, hc⟩ := h h0
  exact ⟨g, cur, e2, hg.below hb, hc⟩
theorem Sr.kept {w w' : World} {v : Value} {l : List (Nat × Nat)} {b : Nat} {T : Tb} (h : Sr w v l) (k : Kept (· = b) w w') (ht : TabW w b T) : Sr w' v l := by
  obtain ⟨a, c, e, h⟩ := h
  refine ⟨a, c, e, fun h0 => ?_⟩
  obtain ⟨g, cur, e2, hg, hc⟩ := h h0
  have hn : g ≠ b := by rintro rfl; exact absurd (hg.uniq ht.bk).1 (by decide)
  exact ⟨g, cur, e2, hg.kept k hn, hc⟩
theorem Sr.of_own {w : World} {b : Nat} {v : Value} {l : List (Nat × Nat)} (h : w.ownsRow b 33 2 v l.length (pairs l)) : Sr w v l := by
  rcases h.2 with ⟨rfl, h0⟩ | ⟨g, cap, cur, rfl, h1, h2, h3, h4, h5, h6⟩
  · have : l = [] := List.eq_nil_of_length_eq_zero h0
    subst this
    exact ⟨none, 0, rfl, fun h => by simp at h⟩
  · refine ⟨_, cap, rfl, fun _ => ⟨g, cur, rfl, h2, fun j r hj => ?_⟩⟩
    have hjl : j < l.length := (List.getElem?_eq_some_iff.1 hj).1
    have := pairs_at l j r hj
    rw [← h6, List.getElem?_take_of_lt (by omega), List.getElem?_take_of_lt (by omega), Array.getElem?_toList, Array.getElem?_toList] at this
    exact this
theorem Sr.at {w : World} {a : Option Addr} {n c : Nat} {l : List (Nat × Nat)} (h : Sr w (.slice a n c) l) {j : Nat} {r : Nat × Nat} (hj : l[j]? = some r) : ∃ g, a = some ⟨g, 0, none⟩ ∧ g < w.heap.size ∧ w.cell? ⟨g, j * 2, none⟩ = some (.int .i64 r.1) ∧ w.cell? ⟨g, j * 2 + 1, none⟩ = some (.int .u32 r.2) := by
  obtain ⟨a', c', e, h⟩ := h
  injection e with e1 e2 e3
  subst e1
  have hjl : j < l.length := (List.getElem?_eq_some_iff.1 hj).1
  obtain ⟨g, cur, e2, hg, hc⟩ := h (by omega)
  exact ⟨g, e2, hg.lt, by rw [hg.cell]; exact (hc j r hj).1, by rw [hg.cell]; exact (hc j r hj).2⟩
theorem Sr.len {w : World} {v : Value} {l : List (Nat × Nat)} (h : Sr w v l) : ∃ a c, v = .slice a l.length c := by
  obtain ⟨a, c, e, _⟩ := h
  exact ⟨a, c, e⟩

/-- Taken, told by what its slice reads as. -/
def TkS (l : List (Nat × Nat)) (w : World) (e : Ending) (w' : World) : Prop := ∃ a c, e = .returned (.slice a l.length c) ∧ Sr w' (.slice a l.length c) l ∧ Below w.heap.size w w'
theorem taken_s (b : Nat) (T : Tb) (w : World) (h : TabW w b T) : Calls Try.prog 27 #[.pointer (some ⟨b, 0, none⟩)] w (TkS T.now w) := by
  refine (taken_ok b T w h).mono ?_
  rintro e w' ⟨v, rfl, h1, _, h3⟩
  have hs := Sr.of_own h1
  obtain ⟨a, c, rfl⟩ := hs.len
  exact ⟨a, c, rfl, hs, h3⟩

theorem own_kept {w w' : World} {base n s b : Nat} {e : TypeId} {v : Value} {xs : List Value} (h : w.ownsRow base e s v n xs) (k : Kept (· = b) w w') (hb : b < base) : w'.ownsRow base e s v n xs := by
  refine ⟨h.1, ?_⟩
  rcases h.2 with h | ⟨g, cap, cur, h1, h2, h3, h4⟩
  · exact .inl h
  · exact .inr ⟨g, cap, cur, h1, h2, (Bk.kept (show Bk w g e cur from h3) k (by omega)), h4⟩
theorem own_below {w w' : World} {base n s : Nat} {e : TypeId} {v : Value} {xs : List Value} (h : w.ownsRow base e s v n xs) (k : Below w.heap.size w w') : w'.ownsRow base e s v n xs := by
  refine ⟨h.1, ?_⟩
  rcases h.2 with h | ⟨g, cap, cur, h1, h2, h3, h4⟩
  · exact .inl h
  · exact .inr ⟨g, cap, cur, h1, h2, (Bk.below (show Bk w g e cur from h3) k), h4⟩

/-! ### made -/
/-- What the parameter l holds: its turns. -/
structure Turns (w : World) (a : Option Addr) (len : Nat) (c : Nat → Bool) (q : Nat → Nat) : Prop where
  at_ : 0 < len → ∃ b off, a = some ⟨b, off, none⟩ ∧ b < w.heap.size ∧ ∀ j, j < len → w.cell? ⟨b, off + j * 2, none⟩ = some (.bool (c j)) ∧ w.cell? ⟨b, off + j * 2 + 1, none⟩ = some (.int .u8 (q j))
  lt : ∀ j, j < len → q j < 256
theorem Turns.below {w w' : World} {a : Option Addr} {len : Nat} {c : Nat → Bool} {q : Nat → Nat} (h : Turns w a len c q) (hb : Below w.heap.size w w') : Turns w' a len c q :=
  ⟨fun h0 => by obtain ⟨b, off, e, h1, h2⟩ := h.at_ h0; exact ⟨b, off, e, Nat.lt_of_lt_of_le h1 hb.size, fun j hj => ⟨(hb.cell (p := ⟨b, off + j * 2, none⟩) h1).trans (h2 j hj).1, (hb.cell (p := ⟨b, off + j * 2 + 1, none⟩) h1).trans (h2 j hj).2⟩⟩, h.lt⟩

structure MSt (w0 w : World) (b : Nat) (v : Value) (T : Tb) (L : List (Nat × Nat)) : Prop where
  t : TabW w b T
  o : w.ownsRow (b + 1) 33 2 v L.length (pairs L)
  bel : Below w0.heap.size w0 w
  lb : w0.heap.size ≤ b
def MadeV (T : Tb) (L : List (Nat × Nat)) (w : World) (e : Ending) (w' : World) : Prop :=
  ∃ b a c, e = .returned (.tuple #[.pointer (some ⟨b, 0, none⟩), .slice a L.length c]) ∧ w.heap.size ≤ b ∧ TabW w' b T ∧ Sr w' (.slice a L.length c) L ∧ Below w.heap.size w w'
/-- The table that made begins with. -/
def mk0 (size below : Int) : Tb := fresh (1 + size % 20).toNat (4294967295 - below % 8).toNat
theorem MSt.took {w0 w w' : World} {b : Nat} {v : Value} {T U : Tb} {L : List (Nat × Nat)} (h : MSt w0 w b v T L) (k : Kept (· = b) w w') (ht : TabW w' b U) : MSt w0 w' b v U L :=
  ⟨ht, own_kept h.o k (Nat.lt_succ_self _), kept_bel h.bel k h.lb, h.lb⟩
theorem MSt.quiet {w0 w w' : World} {b : Nat} {v : Value} {T : Tb} {L : List (Nat × Nat)} (h : MSt w0 w b v T L) (k : Below w.heap.size w w') : MSt w0 w' b v T L :=
  ⟨h.t.below k, own_below h.o k, bel2 h.bel k, h.lb⟩

theorem turn_no (T : Tb) (q : Nat) : T.turn false q = T.take := if_neg (by decide)
theorem gets_nil {T : Tb} (L : List (Nat × Nat)) (h : T.free = []) : L ++ T.gets false = L := by
  unfold Tb.gets; rw [if_neg (by decide), h, List.append_nil]
theorem gets_cons {T : Tb} (L : List (Nat × Nat)) {i : Nat} {r : List Nat} (h : T.free = i :: r) : L ++ T.gets false = L ++ [(i, T.g i)] := by
  unfold Tb.gets; rw [if_neg (by decide), h]
theorem gets_yes (T : Tb) (L : List (Nat × Nat)) : L ++ T.gets true = L := by
  unfold Tb.gets; rw [if_pos rfl, List.append_nil]
theorem turn_none {T : Tb} (q : Nat) (h : T.held = []) : T.turn true q = T := by
  unfold Tb.turn; rw [if_pos rfl, h]; rfl
theorem turn_some {T : Tb} (q : Nat) {m j i : Nat} (hm : T.held.length = m) (hj : q % m = j) (hi : T.held[j]? = some i) : T.turn true q = T.gave i := by
  unfold Tb.turn; rw [if_pos rfl, hm, hj, hi]
theorem now_at' {T : Tb} {j i : Nat} (h : T.held[j]? = some i) : T.now[j]? = some (i, T.g i) := by
  simp only [Tb.now, Tb.refs, List.getElem?_map, h, Option.map_some]

set_option maxRecDepth 100000 in
set_option maxHeartbeats 4000000 in
theorem made_ok (size below : Int) (a : Option Addr) (len cap : Nat) (c : Nat → Bool) (q : Nat → Nat) (w : World) (h0 : 0 ≤ size) (h1 : size ≤ 255) (h2 : 0 ≤ below) (h3 : below ≤ 255) (hl : len ≤ 200) (hu : Turns w a len c q) :
    Calls Try.prog 28 #[.int .u8 size, .int .u8 below, .slice a len cap] w (MadeV (runT (mk0 size below) c q len) (runL (mk0 size below) c q len) w) := by
  obtain ⟨i0, hi, hz0, hz1, hz2⟩ := info_parts info_ref
  have HU := Lib.hid hu
  obtain ⟨n, hn⟩ : ∃ n : Nat, 1 + size % 20 = (n : Int) := ⟨(1 + size % 20).toNat, by omega⟩
  obtain ⟨f, hf⟩ : ∃ f : Nat, 4294967295 - below % 8 = (f : Int) := ⟨(4294967295 - below % 8).toNat, by omega⟩
  have hn1 : 1 + size.tmod 20 = (n : Int) := by rw [Int.tmod_eq_emod_of_nonneg h0]; exact hn
  have hf1 : 4294967295 - below.tmod 8 = (f : Int) := by rw [Int.tmod_eq_emod_of_nonneg h2]; exact hf
  have hnl : 1 ≤ n := by omega
  have hnh : n ≤ 256 := by omega
  have hfl : 1 ≤ f := by omega
  have hfh : f ≤ 4294967295 := by omega
  have hm : mk0 size below = fresh n f := by unfold mk0; rw [hn, hf, Int.toNat_natCast, Int.toNat_natCast]
  rw [hm]
  clear hm hu
  go_enter Try.func28, Try.ntmps28
  go_wp2_with fail
  clear hn1 hf1
  refine (new_ok n f _ hnl hnh hfl hfh).mono ?_
  rintro e w1 ⟨rfl, ht, hb⟩
  have S1 : Hid (MSt w w1 w.heap.size (.slice none 0 0) (runT (fresh n f) c q 0) (runL (fresh n f) c q 0)) := ⟨ht, World.ownsRow_nil _ _ _ _, hb, Nat.le_refl _⟩
  have HOK := Lib.hid ht.ok
  clear ht hb hn hf
  obtain ⟨b, hb⟩ : ∃ b, w.heap.size = b := ⟨_, rfl⟩
  rw [hb] at S1
  rw [hb]
  have HB := Lib.hid hb
  clear hb
  go_wp2
  go_loopw [10, 11] (fun v i wr => ∃ k : Nat, k ≤ len ∧ i = .int .i64 k ∧ Hid (MSt w wr b v (runT (fresh n f) c q k) (runL (fresh n f) c q k))) (fun _ i _ => len - (intOf i).toNat)
  case atStart => exact ⟨0, Nat.zero_le _, rfl, S1.out⟩
  case round =>
    obtain ⟨k, hk, rfl, HS⟩ := hrel
    by_cases hlt : k < len
    · obtain ⟨B, off, rfl, hB, hcells⟩ := (HU.out.below HS.out.bel).at_ (by omega)
      obtain ⟨hc0, hc1⟩ := hcells k hlt
      have hq := HU.out.lt k hlt
      have hLl := runL_len (fresh n f) c q k
      have hT1 : Hid (runT (fresh n f) c q (k + 1) = (runT (fresh n f) c q k).turn (c k) (q k)) := rfl
      have hL1 : Hid (runL (fresh n f) c q (k + 1) = runL (fresh n f) c q k ++ (runT (fresh n f) c q k).gets (c k)) := rfl
      have HOK2 := Lib.hid (runT_ok HOK.out c q k)
      obtain ⟨T', hT'⟩ : ∃ T', runT (fresh n f) c q (k + 1) = T' := ⟨_, rfl⟩
      obtain ⟨L', hL'⟩ : ∃ L', runL (fresh n f) c q (k + 1) = L' := ⟨_, rfl⟩
      rw [hT'] at hT1
      rw [hL'] at hL1
      have HT' := Lib.hid hT'
      have HL' := Lib.hid hL'
      clear hT' hL' hcells
      generalize runT (fresh n f) c q k = T at *
      generalize runL (fresh n f) c q k = L at *
      generalize q k = x at *
      generalize c k = gv at *
      cases gv
      · obtain ⟨i, hfr⟩ : ∃ fr, T.free = fr := ⟨_, rfl⟩
        cases i with
        | nil =>
          have hE : T.tE = 4 := by simp [Tb.tE, hfr]
          have h1 := Lib.hid (hT1.out.trans (turn_no T x))
          have h2 := Lib.hid (hL1.out.trans (gets_nil L hfr))
          have HE := Lib.hid hE
          clear hE hfr hT1 hL1
          go_wp2_with fail
          clear hc0 hc1
          refine (take_ok b T _ HS.out.t).mono ?_
          rintro e w3 ⟨rfl, ht, hk3⟩
          rw [HE.out]
          have HS3 : Hid (MSt w (w3.alloc (.cells #[.int .i64 T.tI, .int .u32 T.tG] 33)) b u10 T' L') := by
            rw [h1.out, h2.out]; exact (HS.out.took hk3 ht).quiet ((Below.refl _ w3).alloc (Nat.le_refl _) _)
          clear ht hk3
          go_wp2
          go_roundw
          case rel => exact ⟨k + 1, by omega, by go_num, by rw [HT'.out, HL'.out]; exact HS3.out⟩
          case measure => simp [intOf]; omega
        | cons i fr =>
          have hE : T.tE = 0 := by simp [Tb.tE, hfr]
          have hI : T.tI = i := by simp [Tb.tI, hfr]
          have hG : T.tG = T.g i := by simp [Tb.tG, hfr]
          have h1 := Lib.hid (hT1.out.trans (turn_no T x))
          have h2 := Lib.hid (hL1.out.trans (gets_cons L hfr))
          have HE := Lib.hid (And.intro hE (And.intro hI hG))
          clear hE hI hG hfr hT1 hL1
          generalize hy : T.g i = y at *
          clear hy
          go_wp2_with fail
          clear hc0 hc1
          refine (take_ok b T _ HS.out.t).mono ?_
          rintro e w3 ⟨rfl, ht, hk3⟩
          rw [HE.out.1, HE.out.2.1, HE.out.2.2]
          have HS3 := Lib.hid ((HS.out.took hk3 ht).quiet ((Below.refl _ w3).alloc (Nat.le_refl _) (.cells #[.int .i64 i, .int .u32 y] 33)))
          have hlb := HS3.out.t.bt
          clear ht hk3
          have hown := HS3.out.o
          go_wp2_with (at_builtin; refine wpList_append_own _ rfl _ _ 53 rfl (b + 1) 33 i0 (.agg #[.int .i64 0, .int .u32 0]) 2 16 Try.underlying53 hi hz0 hz1 hz2 rfl (by decide) _ _ _ rfl (hown.alloc _) ⟨w3.heap.size + 1, 0, none⟩ 1 1 [.int .i64 i, .int .u32 y] rfl rfl ?c1 ?c2 ?c3 ?c4 ?c5 ?_)
          case c1 =>
            have h := cell_two_new (w3.alloc (.cells #[.int .i64 i, .int .u32 y] 33)) (.int .i64 i) (.int .u32 y) 33
            rw [World.size_alloc] at h
            exact h
          case c2 => intro u hu; simp at hu; rcases hu with rfl | rfl <;> rfl
          case c3 => unfold maxLen; omega
          case c4 => omega
          case c5 => simp at hlb ⊢; omega
          intro v' w4 hown' hgrow _
          have HS4 : Hid (MSt w w4 b v' T' L') := by
            have hb4 : Below (w3.alloc (.cells #[.int .i64 i, .int .u32 y] 33)).heap.size (w3.alloc (.cells #[.int .i64 i, .int .u32 y] 33)) w4 → False ∨ True := fun _ => .inr trivial
            have hge : ∀ j, u10.ownBlock = some j → b + 1 ≤ j := fun j ej => (hown.lt j ej).1
            have hblk : w4.heap[b]? = (w3.alloc (.cells #[.int .i64 i, .int .u32 y] 33)).heap[b]? := by
              rw [hgrow.block b (by simp at hlb ⊢; omega) (fun e => by have := hge b e.symm; omega)]
              exact Below.heap_alloc _ _ _ hlb
            rw [h1.out, h2.out]
            refine ⟨HS3.out.t.same hblk, ?_, (HS3.out.bel.alloc HS3.out.bel.size _).grown hgrow (by have := HS3.out.bel.size; simp at this ⊢; omega) (fun j ej => by have := hge j ej; have := HS3.out.lb; omega), HS3.out.lb⟩
            rw [pairs_snoc, List.length_append]
            exact hown'
          clear hown' hgrow hown HS3 hlb
          go_wp2
          go_roundw
          case rel => exact ⟨k + 1, by omega, by go_num, by rw [HT'.out, HL'.out]; exact HS4.out⟩
          case measure => simp [intOf]; omega
      · have h2 := Lib.hid (hL1.out.trans (gets_yes T L))
        have hBs := Nat.lt_of_lt_of_le hB (Nat.le_refl _)
        go_wp2_with fail
        clear hc0
        refine (taken_s b T _ HS.out.t).mono ?_
        rintro e w3 ⟨a3, c3, rfl, hs3, hb3⟩
        have HS3 := Lib.hid (HS.out.quiet hb3)
        have hc2 : w3.cell? ⟨B, off + k * 2 + 1, none⟩ = some (.int .u8 x) := (hb3.cell (p := ⟨B, off + k * 2 + 1, none⟩) hB).trans hc1
        have HSR := Lib.hid hs3
        have hnl3 := Tb.now_len T
        clear hs3 hb3 hc1
        obtain ⟨m, hm⟩ : ∃ m, T.held.length = m := ⟨_, rfl⟩
        rw [hm] at hnl3
        rw [hnl3]
        rw [hnl3] at HSR
        by_cases hm0 : m = 0
        · subst hm0
          have h1 := Lib.hid (hT1.out.trans (turn_none x (List.eq_nil_of_length_eq_zero hm)))
          clear hm hnl3 hT1 hL1 hc2
          go_wp2
          go_roundw
          case rel => exact ⟨k + 1, by omega, by go_num, by rw [HT'.out, HL'.out, h1.out, h2.out]; exact HS3.out⟩
          case measure => simp [intOf]; omega
        · obtain ⟨j, hj⟩ : ∃ j, x % m = j := ⟨_, rfl⟩
          have hjm : j < m := by rw [← hj]; exact Nat.mod_lt _ (by omega)
          obtain ⟨i, hij⟩ : ∃ i, T.held[j]? = some i := ⟨_, List.getElem?_eq_getElem (by omega)⟩
          have h1 := Lib.hid (hT1.out.trans (turn_some x hm hj hij))
          obtain ⟨hin, his⟩ := Tb.held_at hij
          obtain ⟨g3, rfl, hg3, hx0, hx1⟩ := HSR.out.at (now_at' hij)
          simp only [] at hx0 hx1
          have HCH := Lib.hid (Tb.chk_held hin his)
          have HGV := Lib.hid (Tb.given_held hin his)
          have hm1 : 0 < m := by omega
          have e2 : (x : Int) % (m : Int) = (j : Int) := by
            have := congrArg (fun n : Nat => (n : Int)) hj
            simpa using this
          have e1 : (x : Int).tmod (m : Int) = (j : Int) := by rw [Int.tmod_eq_emod_of_nonneg (by omega)]; exact e2
          have HJ := Lib.hid hj
          obtain ⟨y, hy⟩ : ∃ y, T.g i = y := ⟨_, rfl⟩
          rw [hy] at hx1 HCH HGV
          clear hm hnl3 hT1 hL1 hj hij his hy
          go_wp2_with fail
          clear e1 e2 hx0 hx1 hc2
          refine (give_any b T i y _ HS3.out.t).mono ?_
          rintro e w4 ⟨rfl, ht, hk4⟩
          rw [HGV.out] at ht
          have HS4 := Lib.hid (HS3.out.took hk4 ht)
          clear ht hk4
          go_wp2
          go_roundw
          case rel => exact ⟨k + 1, by omega, by go_num, by rw [HT'.out, HL'.out, h1.out, h2.out]; exact HS4.out⟩
          case measure => simp [intOf]; omega
    · obtain rfl : k = len := by omega
      obtain ⟨a2, c2, e2⟩ := (Sr.of_own HS.out.o).len
      have HSR := Lib.hid (Sr.of_own HS.out.o)
      subst e2
      go_wp2
      go_ret2
      exact ⟨b, a2, c2, rfl, HS.out.lb, HS.out.t, HSR.out, HS.out.bel⟩
end Go.Proofs.Ytgdboppdncoieaa
