/- ExpireSplit: Due for a smaller time, and then for a greater one, is Due for the greater one at once. -/
import Derived.Test.YtlnjgbdekcgmpaaEx
import Derived.Maps.AppendAt
namespace Go.Proofs.Ytlnjgbdekcgmpaa
open Go.RowKit

theorem due_rest {L : List En} (hs : Srt L) {low high : Int} (h : low ≤ high) : due L low ++ due (rest L low) high = due L high ∧ rest (rest L low) high = rest L high := by
  have e1 : due (due L low) high = due L low := due_all fun x hx => by have := (mem_due.1 hx).2; omega
  have e2 : rest (due L low) high = [] := by
    unfold rest
    rw [List.filter_eq_nil_iff]
    intro x hx
    have := (mem_due.1 hx).2
    simp; omega
  have e3 := due_append hs low
  constructor
  · calc due L low ++ due (rest L low) high = due (due L low) high ++ due (rest L low) high := by rw [e1]
      _ = due (due L low ++ rest L low) high := by unfold due; rw [List.filter_append]
      _ = due L high := by rw [e3]
  · calc rest (rest L low) high = rest (due L low) high ++ rest (rest L low) high := by rw [e2]; rfl
      _ = rest (due L low ++ rest L low) high := by unfold rest; rw [List.filter_append]
      _ = rest L high := by rw [e3]

/-- append(s, x...): s a row of one's own, x any slice that reads as m. -/
theorem wpList_append_rd {w : World} {ops : Array Oper} {rest : List Oper} {o : Oper} {a : Act} {Q : Exit → Act → World → Prop} (hgd : o.guard = none) (s x : Operand)
    (ho : o.op = .call { callee := .builtin .append, args := #[s, x], argTypes := #[34, 34] })
    (base : Nat) (v : Value) (n : Nat) (xs : List Value) (hs : a.eval s = v) (hown : w.ownsRow base 3 1 v n xs)
    (vx : Value) (m : List Int) (hx : a.eval x = vx) (hm : Rd w vx m) (h63 : n + m.length ≤ 1000000) (hbase : base ≤ w.heap.size)
    (h : ∀ v' w', w'.ownsRow base 3 1 v' (n + m.length) (xs ++ ints m) → w.grownBy w' v.ownBlock → (v'.ownBlock = v.ownBlock ∨ v'.ownBlock = some w.heap.size) → wpList Try.prog ops Q rest (a.put o.dst v') w') : wpList Try.prog ops Q (o :: rest) a w := by
  obtain ⟨i0, hi, hz0, hz1, hz2⟩ := info_parts info_int
  obtain ⟨a0, c, rfl, h1, h2, h3, h4⟩ := hm
  cases a0 with
  | none =>
    have hc0 := h3 rfl
    subst hc0
    have : m = [] := List.eq_nil_of_length_eq_zero (by omega)
    subst this
    exact wpList_append_own_none hgd s x 34 ho base 3 i0 1 Try.underlying34 hi v n xs hs hown hx (h v w (by simpa [ints] using hown) (World.grownBy.refl w _) (.inl rfl))
  | some b =>
    refine wpList_append_own_at _ hgd s x 34 ho base 3 i0 (.int .i64 0) 1 8 Try.underlying34 hi hz0 hz1 hz2 rfl (by decide) v n xs hs hown b m.length c (ints m) hx (by simp [ints]) (fun j u hj => ?_) (ints_one m) (by unfold maxLen; omega) (by omega) hbase (fun v' w' h5 h6 _ h7 => h v' w' h5 h6 h7)
    have hjl : j < m.length := by have := (List.getElem?_eq_some_iff.1 hj).1; simpa [ints] using this
    obtain ⟨g, off, e, hg, hc⟩ := h4 (by omega)
    have e := Option.some.inj e
    subst e
    obtain ⟨y, hy, rfl⟩ := ints_get hj
    rw [Addr.add_lit]
    exact hc j y hy

/-- Two queues, and a row that is none of theirs. -/
def TwoR (w0 w : World) (b c : Nat) (L M : List En) (v : Value) (xs : List Int) : Prop :=
  ∃ F G, Q w b F L ∧ Q w c G M ∧ (∀ g, F g → ¬ G g) ∧ (∀ g, F g → w0.heap.size ≤ g) ∧ (∀ g, G g → w0.heap.size ≤ g) ∧ Below w0.heap.size w0 w ∧ w.ownsRow w0.heap.size 3 1 v xs.length (ints xs) ∧ ∀ g, v.ownBlock = some g → ¬ F g ∧ ¬ G g
section
variable {w0 w w' : World} {b c : Nat} {L M : List En} {v : Value} {xs : List Int}
theorem TwoR.two (h : TwoR w0 w b c L M v xs) : Two w0 w b c L M := by
  obtain ⟨F, G, h1, h2, h3, h4, h5, h6, _⟩ := h
  exact ⟨F, G, h1, h2, h3, h4, h5, h6⟩
theorem TwoR.row (h : TwoR w0 w b c L M v xs) : w.ownsRow w0.heap.size 3 1 v xs.length (ints xs) := by
  obtain ⟨F, G, _, _, _, _, _, _, h, _⟩ := h
  exact h
theorem TwoR.swap (h : TwoR w0 w b c L M v xs) : TwoR w0 w c b M L v xs := by
  obtain ⟨F, G, h1, h2, h3, h4, h5, h6, h7, h8⟩ := h
  exact ⟨G, F, h2, h1, fun g hg hf => h3 g hf hg, h5, h4, h6, h7, fun g hg => (h8 g hg).symm⟩
theorem tr_due0 (h : Two w0 w b c L M) (now : Int) : Calls Try.prog 19 #[.pointer (some ⟨b, 0, none⟩), .int .i64 now] w fun e w' => ∃ a c', e = .returned (.slice a (due L now).length c') ∧ (due L now).length ≤ c' ∧ c' ≤ 9223372036854775807 ∧ TwoR w0 w' b c (rest L now) M (.slice a (due L now).length c') (ids (due L now)) := by
  obtain ⟨F, G, h1, h2, h3, h4, h5, h6⟩ := h
  refine (q_due h1 now).mono ?_
  rintro e w' ⟨v, F', rfl, k1, k2, k3, k4, k5⟩
  rw [show (due L now).length = (ids (due L now)).length from (ids_length _).symm] at k4
  obtain ⟨a, c', rfl, hc1, hc2, hr⟩ := (Rd.of_own k4).len
  rw [ids_length] at hc1
  have hlt := k4.lt
  refine ⟨a, c', by rw [ids_length], hc1, hc2, F', G, k1, h2.kept k2 (fun g hg hf => h3 g hf hg), fun g hf hg => ?_, fun g hg => ?_, h5, h6.trans (k2.below h6.size h4), ?_, fun g hg => ⟨k5 g ?_, fun hG => ?_⟩⟩
  · rcases k3 g hf with k | k
    · exact h3 g k hg
    · have := h2.lt hg; omega
  · rcases k3 g hg with k | k
    · exact h4 g k
    · have := h6.size; omega
  · rw [← ids_length (due L now)]
    exact own_lower k4 h6.size
  · rw [ids_length]; exact hg
  · have := h2.lt hG
    have := hlt g (by rw [ids_length]; exact hg)
    omega
theorem tr_due (h : TwoR w0 w b c L M v xs) (now : Int) : Calls Try.prog 19 #[.pointer (some ⟨b, 0, none⟩), .int .i64 now] w fun e w' => ∃ a c', e = .returned (.slice a (due L now).length c') ∧ (due L now).length ≤ c' ∧ c' ≤ 9223372036854775807 ∧ TwoR w0 w' b c (rest L now) M v xs ∧ Rd w' (.slice a (due L now).length c') (ids (due L now)) ∧ (∀ g, (Value.slice a (due L now).length c').ownBlock = some g → w.heap.size ≤ g) := by
  obtain ⟨F, G, h1, h2, h3, h4, h5, h6, h7, h8⟩ := h
  have hlx := h7.lt
  refine (q_due h1 now).mono ?_
  rintro e w' ⟨v2, F', rfl, k1, k2, k3, k4, k5⟩
  rw [show (due L now).length = (ids (due L now)).length from (ids_length _).symm] at k4
  obtain ⟨a, c', rfl, hc1, hc2, hr⟩ := (Rd.of_own k4).len
  rw [ids_length] at hc1 hr
  have hlt := k4.lt
  refine ⟨a, c', by rw [ids_length], hc1, hc2, ⟨F', G, k1, h2.kept k2 (fun g hg hf => h3 g hf hg), fun g hf hg => ?_, fun g hg => ?_, h5, h6.trans (k2.below h6.size h4), own_same h7 fun g hg => k2.block g (hlx g hg).2 (h8 g hg).1, fun g hg => ⟨fun hf => ?_, (h8 g hg).2⟩⟩, hr, fun g hg => (hlt g (by rw [ids_length]; exact hg)).1⟩
  · rcases k3 g hf with k | k
    · exact h3 g k hg
    · have := h2.lt hg; omega
  · rcases k3 g hg with k | k
    · exact h4 g k
    · have := h6.size; omega
  · rcases k3 g hf with k | k
    · exact (h8 g hg).1 k
    · have := (hlx g hg).2; omega
/-- The row has grown. -/
theorem TwoR.grown (h : TwoR w0 w b c L M v xs) {v' : Value} {ys : List Int} (hrow : w'.ownsRow w0.heap.size 3 1 v' ys.length (ints ys)) (hg : w.grownBy w' v.ownBlock) (hv : v'.ownBlock = v.ownBlock ∨ ∃ g, v'.ownBlock = some g ∧ w.heap.size ≤ g) : TwoR w0 w' b c L M v' ys := by
  obtain ⟨F, G, h1, h2, h3, h4, h5, h6, h7, h8⟩ := h
  have hlx := h7.lt
  have hk : Kept (fun g => v.ownBlock = some g) w w' := (Kept.refl _ _).grown hg fun k e => .inl e
  have hb : Below w0.heap.size w w' := hk.below h6.size fun k e => (hlx k e).1
  refine ⟨F, G, h1.kept hk (fun g hf e => (h8 g e).1 hf), h2.kept hk (fun g hf e => (h8 g e).2 hf), h3, h4, h5, h6.trans hb, hrow, fun g e => ?_⟩
  rcases hv with q | ⟨g', q, hq⟩
  · exact h8 g (by rw [← q]; exact e)
  · rw [q] at e
    have := Option.some.inj e
    exact ⟨fun hf => by have := h1.lt hf; omega, fun hf => by have := h2.lt hf; omega⟩
end

theorem app_fin {w0 w w' : World} {b c d : Nat} {L M : List En} {v v' : Value} {xs ys zs : List Int} (h : TwoR w0 w b c L M v xs) (hz : zs.length = d) (he : xs ++ ys = zs) (hrow : w'.ownsRow w0.heap.size 3 1 v' d (ints xs ++ ints ys)) (hg : w.grownBy w' v.ownBlock) (hv : v'.ownBlock = v.ownBlock ∨ v'.ownBlock = some w.heap.size) :
    ∃ a c', v' = .slice a d c' ∧ d ≤ c' ∧ c' ≤ 9223372036854775807 ∧ TwoR w0 w' b c L M (.slice a d c') zs := by
  subst hz
  rw [← ints_append, he] at hrow
  obtain ⟨a, c', rfl, h1, h2, h3⟩ := (Rd.of_own hrow).len
  exact ⟨a, c', rfl, h1, h2, h.grown hrow hg (hv.imp id fun e => ⟨_, e, Nat.le_refl _⟩)⟩

set_option maxHeartbeats 4000000 in
theorem eSpl_ok (a : Option Addr) (n c : Nat) (l : List Int) (x y : Int) (w : World) (h : U8 w a n l) (hc : n ≤ c) (hcm : c ≤ 9223372036854775807) (hx0 : 0 ≤ x) (hx1 : x ≤ 255) (hy0 : 0 ≤ y) (hy1 : y ≤ 255) (hn : n ≤ 60)  :
    Calls Try.prog 6 #[.slice a n c, .int .u8 x, .int .u8 y] w fun e w' => e = .returned (.bool true) ∧ Below w.heap.size w w' := by
  obtain ⟨lo, hlo⟩ : ∃ lo, min x y = lo := ⟨_, rfl⟩
  obtain ⟨hi, hhi⟩ : ∃ hi, max x y = hi := ⟨_, rfl⟩
  have hlh : lo ≤ hi := by omega
  obtain ⟨L, hL⟩ : ∃ L, fl l n = L := ⟨_, rfl⟩
  have F1 : Hid (∀ W, Below w.heap.size w W → Calls Try.prog 29 #[.slice a n c] W fun e w' => ∃ b, e = .returned (.pointer (some ⟨b, 0, none⟩)) ∧ Own W w' b L) := fun W hB => by have := filled_ok w a n c l W hB (h.below hB) hc hcm hn; rw [hL] at this; exact this
  have F2 : Hid (∀ W b, Own w W b L → Calls Try.prog 29 #[.slice a n c] W fun e w' => ∃ c, e = .returned (.pointer (some ⟨c, 0, none⟩)) ∧ Two w w' b c L L) := fun W b ho => (F1.out W ho.bel).mono fun e w' ⟨c, h1, h2⟩ => ⟨c, h1, Two.make ho h2⟩
  have hs : Srt L := by rw [← hL]; exact fl_srt _ _
  have hll : L.length = n := by rw [← hL]; exact fl_len _ _
  obtain ⟨hd, hr⟩ := due_rest hs (low := lo) (high := hi) (by omega)
  have hlen : (due L lo).length + (due (rest L lo) hi).length = (due L hi).length := by rw [← hd, List.length_append]
  have hids : ids (due L lo) ++ ids (due (rest L lo) hi) = ids (due L hi) := by rw [← hd, ids_append]
  have hle : (due L hi).length ≤ 60 := by have := List.length_filter_le (fun e : En => decide (e.2 ≤ hi)) L; unfold due; omega
  have D1 : Hid (∀ W b c, Two w W b c L L → Calls Try.prog 19 #[.pointer (some ⟨b, 0, none⟩), .int .i64 lo] W fun e w' => ∃ a c', e = .returned (.slice a (due L lo).length c') ∧ (due L lo).length ≤ c' ∧ c' ≤ 9223372036854775807 ∧ TwoR w w' b c (rest L lo) L (.slice a (due L lo).length c') (ids (due L lo))) := fun W b c h => tr_due0 h lo
  have D2 : Hid (∀ W b c v, TwoR w W b c (rest L lo) L v (ids (due L lo)) → Calls Try.prog 19 #[.pointer (some ⟨b, 0, none⟩), .int .i64 hi] W fun e w' => ∃ a c', e = .returned (.slice a (due (rest L lo) hi).length c') ∧ (due (rest L lo) hi).length ≤ c' ∧ c' ≤ 9223372036854775807 ∧ TwoR w w' b c (rest L hi) L v (ids (due L lo)) ∧ Rd w' (.slice a (due (rest L lo) hi).length c') (ids (due (rest L lo) hi))) := fun W b c v h => (tr_due h hi).mono fun e w' ⟨a, c', h1, h2, h3, h4, h5, _⟩ => by
    rw [hr] at h4
    exact ⟨a, c', h1, h2, h3, h4, h5⟩
  have D3 : Hid (∀ W b c v, TwoR w W b c (rest L hi) L v (ids (due L hi)) → Calls Try.prog 19 #[.pointer (some ⟨c, 0, none⟩), .int .i64 hi] W fun e w' => ∃ a c', e = .returned (.slice a (due L hi).length c') ∧ (due L hi).length ≤ c' ∧ c' ≤ 9223372036854775807 ∧ TwoR w w' b c (rest L hi) (rest L hi) v (ids (due L hi)) ∧ Rd w' (.slice a (due L hi).length c') (ids (due L hi))) := fun W b c v h => (tr_due h.swap hi).mono fun e w' ⟨a, c', h1, h2, h3, h4, h5, _⟩ => ⟨a, c', h1, h2, h3, h4.swap, h5⟩
  have L1 : Hid (∀ W b c v xs, TwoR w W b c (rest L hi) (rest L hi) v xs → Calls Try.prog 27 #[.pointer (some ⟨b, 0, none⟩)] W fun e w' => e = .returned (.int .i64 (rest L hi).length) ∧ W = w') := fun W b c v xs h => two_len h.two
  have L2 : Hid (∀ W b c v xs, TwoR w W b c (rest L hi) (rest L hi) v xs → Calls Try.prog 27 #[.pointer (some ⟨c, 0, none⟩)] W fun e w' => e = .returned (.int .i64 (rest L hi).length) ∧ W = w') := fun W b c v xs h => two_len h.two.swap
  have HLEN := Lib.hid hlen
  have HIDS := Lib.hid hids
  generalize hd1 : (due L lo).length = d1 at *
  generalize hd2 : (due (rest L lo) hi).length = d2 at *
  generalize hd3 : (due L hi).length = d3 at *
  have X1 : Hid ((ids (due L lo)).length = d1) := by unfold Hid; rw [ids_length]; exact hd1
  have X2 : Hid ((ids (due (rest L lo) hi)).length = d2) := by unfold Hid; rw [ids_length]; exact hd2
  have X3 : Hid ((ids (due L hi)).length = d3) := by unfold Hid; rw [ids_length]; exact hd3
  generalize ids (due L lo) = xs1 at *
  generalize ids (due (rest L lo) hi) = xs2 at *
  generalize ids (due L hi) = xs3 at *
  generalize (rest L hi).length = r3 at *
  have hrr : ((r3 : Int) != (r3 : Int)) = false := by simp
  have hdd : ((d3 : Int) != (d3 : Int)) = false := by simp
  generalize rest L hi = R at *
  generalize rest L lo = R1 at *
  have hd12 : d1 + d2 = d3 := HLEN.out
  clear h hL hs hll hd hr hlen hids hd1 hd2 hd3
  go_enter Try.func6, Try.ntmps6
  go_wp2_with (first
    | (go_at_call 29; (with_reducible refine (F1.out _ (Below.refl _ _)).mono ?_); rintro e w1 ⟨b, rfl, ho⟩; have HO := Lib.hid ho; clear ho)
    | (go_at_call 29; (with_reducible refine (F2.out _ _ HO.out).mono ?_); rintro e w2 ⟨q, rfl, ht⟩; have HT := Lib.hid ht; clear ht HO)
    | (go_at_call 19; (with_reducible refine (D1.out _ _ _ HT.out).mono ?_); rintro e w3 ⟨a3, c3, rfl, hp1, hp2, ht⟩; have HR := Lib.hid ht; clear ht HT)
    | (go_at_call 19; (with_reducible refine (D2.out _ _ _ _ HR.out).mono ?_); rintro e w4 ⟨a4, c4, rfl, hp3, hp4, ht, hrd⟩; have HR := Lib.hid ht; have HD := Lib.hid hrd; clear ht hrd)
    | (at_builtin; refine wpList_append_rd rfl _ _ rfl w.heap.size _ d1 (ints xs1) rfl (by have := HR.out.row; rw [X1.out] at this; exact this) _ xs2 rfl HD.out (by rw [X2.out]; omega) HR.out.two.bel.size ?_; intro v5 w5 hrow5 hg5 hv5; rw [X2.out, hd12] at hrow5; obtain ⟨a5, c5, rfl, hp5, hp6, ht⟩ := app_fin HR.out X3.out HIDS.out hrow5 hg5 hv5; have HR := Lib.hid ht; clear ht hrow5 hg5 hv5 HD)
    | (go_at_call 19; (with_reducible refine (D3.out _ _ _ _ HR.out).mono ?_); rintro e w6 ⟨a6, c6, rfl, hp7, hp8, ht, hrd⟩; have HR := Lib.hid ht; have HD := Lib.hid hrd; clear ht hrd)
    | (go_at_call 27; (with_reducible refine (L1.out _ _ _ _ _ HR.out).mono ?_); rintro e w7 ⟨rfl, rfl⟩)
    | (go_at_call 27; (with_reducible refine (L2.out _ _ _ _ _ HR.out).mono ?_); rintro e w8 ⟨rfl, rfl⟩))
  go_loopw [13] (fun s wr => ∃ j : Nat, j ≤ d3 ∧ s = .int .i64 j ∧ Hid (∃ q, wr = w6.drewN q)) (fun s _ => d3 - (intOf s).toNat)
  case atStart => exact ⟨0, by omega, rfl, ⟨0, rfl⟩⟩
  case round =>
    obtain ⟨j, hj, rfl, HQ⟩ := hrel
    have HRr : Hid (Rd wr (.slice a5 d3 c5) xs3 ∧ Rd wr (.slice a6 d3 c6) xs3 ∧ Below w.heap.size w wr) := by
      obtain ⟨q, rfl⟩ := HQ.out
      have hrow := HR.out.row
      rw [X3.out] at hrow
      exact ⟨Rd.of_own (l := xs3) (b := w.heap.size) (by rw [X3.out]; exact hrow), HD.out, bel_drewN HR.out.two.bel q⟩
    by_cases hlt : j < d3
    · have hjl : j < xs3.length := by rw [X3.out]; exact hlt
      obtain ⟨g, off, rfl, hg, hcell⟩ := HRr.out.1.cell hjl
      obtain ⟨g', off', rfl, hg', hcell'⟩ := HRr.out.2.1.cell hjl
      obtain ⟨z, hz⟩ : ∃ z, xs3[j] = z := ⟨_, rfl⟩
      rw [hz] at hcell hcell'
      clear hg hg' hz
      go_wp2_with fail
      go_quiet (fail)
      all_goals
        go_wp2
      go_roundw
      case rel => exact ⟨j + 1, by omega, by go_num, by obtain ⟨q, hq⟩ := HQ.out; exact ⟨_, by rw [hq]; exact World.drewN_drewN _ _ _⟩⟩
      case measure => simp [intOf]; omega
    · obtain rfl : j = d3 := by omega
      go_wp2_with (go_at_call 11; refine (works_ok _).mono ?_; rintro e w10 ⟨rfl, hb⟩; have HW := Lib.hid (HRr.out.2.2.trans (hb.mono HRr.out.2.2.size)); clear hb)
      go_ret
      exact ⟨rfl, HW.out⟩

theorem eSpl_walk (a : Option Addr) (n c : Nat) (l : List Int) (x y : Int) (w : World) (h : U8 w a n l) (hc : n ≤ c) (hcm : c ≤ 9223372036854775807) (hx0 : 0 ≤ x) (hx1 : x ≤ 255) (hy0 : 0 ≤ y) (hy1 : y ≤ 255) :
    Calls Try.prog 6 #[.slice a n c, .int .u8 x, .int .u8 y] w fun e w' => e = .returned (.bool true) ∧ Below w.heap.size w w' := by
  by_cases hn : n ≤ 60
  · exact eSpl_ok a n c l x y w h hc hcm hx0 hx1 hy0 hy1 hn
  · clear h
    go_enter Try.func6, Try.ntmps6
    go_wp2_with (go_at_call 11; refine (works_ok _).mono ?_; rintro e w2 ⟨rfl, hb⟩; have HW := Lib.hid hb; clear hb)
    go_ret
    exact ⟨rfl, HW.out⟩
end Go.Proofs.Ytlnjgbdekcgmpaa
