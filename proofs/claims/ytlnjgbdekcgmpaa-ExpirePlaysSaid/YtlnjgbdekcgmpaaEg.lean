/- The contracts of the program's Drop and Set. -/
import Derived.Test.YtlnjgbdekcgmpaaEf
namespace Go.Proofs.Ytlnjgbdekcgmpaa
open Go.RowKit

theorem ens_tm : ∀ {L : List En}, Nod L → ens (tm L) (ids L) = L := fun {L} hn => by
  unfold ens ids
  rw [List.map_map]
  refine (List.map_congr_left (g := id) fun e he => ?_).trans (List.map_id _)
  have : tm L e.1 = some e.2 := (tm_some hn).2 he
  show (e.1, ti (tm L) e.1) = e
  unfold ti
  rw [this]
  rfl
/-- What a call makes of the queue in block b: it holds L' then; turned are blocks of its own alone. -/
def QPost (b k m : Nat) (v : Value) (L' : List En) (w w' : World) : Prop :=
  ∃ v', QW w' b k m v' L' ∧ Kept (LFoot k m v) w w' ∧ (v'.ownBlock = v.ownBlock ∨ ∃ g, v'.ownBlock = some g ∧ w.heap.size ≤ g)
theorem QPost.of {b k m : Nat} {v : Value} {L L' : List En} {w w' : World} (h : QW w b k m v L) (p : PutPost k m v L'.length (tm L') (ids L') w w') (h1 : Srt L') (h2 : Nod L') (h3 : ∀ e ∈ L', 0 ≤ e.2 ∧ e.2 ≤ 1099511627776) (h4 : L'.length ≤ 256) : QPost b k m v L' w w' := by
  obtain ⟨v', hl, hk, hv⟩ := p
  exact ⟨v', ⟨h1, h2, h3, h4, h.hb.kept hk h.not_foot, hl⟩, hk, hv⟩
theorem LineW.as {w : World} {k m n n' : Nat} {v : Value} {T T' : Int → Option Int} {xs xs' : List Int} (h : LineW w k m v n T xs) (e1 : n = n') (e2 : ∀ i, T i = T' i) (e3 : xs = xs') : LineW w k m v n' T' xs' := by
  subst e1 e3
  exact ⟨h.hk, h.row, h.map.congr fun i _ => e2 i, h.rg⟩

/-! ### Drop -/
theorem drop_no (p : Option Addr) (i : Int) (w : World) (h : Inv w p) : Calls Try.prog 16 #[.pointer p, .int .i64 i] w fun e w' => e = .returned (.bool false) ∧ w = w' := by
  go_enter Try.func16, Try.ntmps16
  go_wp2_with (go_at_call 25; refine (when_no _ _ _ h).mono ?_; rintro e w' ⟨rfl, rfl⟩)
  go_ret
  exact ⟨rfl, rfl⟩
theorem drop_miss (b k m : Nat) (v : Value) (L : List En) (i : Int) (hi : I64 i) (w : World) (h : QW w b k m v L) (hn : tm L i = none) : Calls Try.prog 16 #[.pointer (some ⟨b, 0, none⟩), .int .i64 i] w fun e w' => e = .returned (.bool false) ∧ w = w' := by
  have hw := Lib.hid (when_ok b k m v L i hi w h)
  rw [hn] at hw
  clear h hn
  go_enter Try.func16, Try.ntmps16
  go_wp2_with (go_at_call 25; refine hw.out.mono ?_; rintro e w' ⟨rfl, rfl⟩)
  go_ret
  exact ⟨rfl, rfl⟩
theorem take_q (b k m : Nat) (v : Value) (L : List En) (i t : Int) (hi : I64 i) (w : World) (h : QW w b k m v L) (hn : tm L i = some t) : Calls Try.prog 34 #[.pointer (some ⟨k, 0, none⟩), .int .i64 i] w fun e w' => e = .returned (.tuple #[]) ∧ QPost b k m v (del L i) w w' := by
  have hx : (i, t) ∈ L := (tm_some h.nod).1 hn
  have hti : ti (tm L) i = t := by unfold ti; rw [hn]; rfl
  have hpl : pos L (i, t) < L.length := (List.getElem?_eq_some_iff.1 (place_at h.srt h.nod hx)).1
  have h1 := take_ok k m L.length v (tm L) (ids L) i hi w h.line (by rw [hn]; rfl) (by rw [ens_tm h.nod]; exact h.srt) (by rw [ids_length]; exact h.len) (by rw [ens_tm h.nod, hti, ids_length]; exact hpl)
  rw [ens_tm h.nod, hti] at h1
  refine h1.mono ?_
  rintro e w' ⟨rfl, v', hl, hk, hv⟩
  have hd := place_del h.srt h.nod hx
  have hdl := del_length h.srt h.nod hx
  simp only at hd hdl
  refine ⟨rfl, QPost.of h ⟨v', hl.as (by omega) (fun j => ?_) ?_, hk, hv⟩ (h.srt.del i) (h.nod.del i) (fun e he => h.rg e (mem_del.1 he).1) (by have := h.len; omega)⟩
  · rw [tm_del h.nod]; rfl
  · rw [hd]; unfold ids; simp [List.map_take, List.map_drop]
theorem drop_hit (b k m : Nat) (v : Value) (L : List En) (i t : Int) (hi : I64 i) (w : World) (h : QW w b k m v L) (hn : tm L i = some t) : Calls Try.prog 16 #[.pointer (some ⟨b, 0, none⟩), .int .i64 i] w fun e w' => e = .returned (.bool true) ∧ QPost b k m v (del L i) w w' := by
  have hw := Lib.hid (when_ok b k m v L i hi w h)
  have ht := Lib.hid (take_q b k m v L i t hi w h hn)
  have hc := h.c
  rw [hn] at hw
  clear h hn
  go_enter Try.func16, Try.ntmps16
  go_wp2_with (first
    | (go_at_call 25; refine hw.out.mono ?_; rintro e w' ⟨rfl, rfl⟩)
    | (go_at_call 34; refine ht.out.mono ?_; rintro e w2 ⟨rfl, hp⟩; have HP := Lib.hid hp; clear hp))
  go_ret
  exact ⟨rfl, HP.out⟩
theorem QPost.refl {b k m : Nat} {v : Value} {L : List En} {w : World} (h : QW w b k m v L) : QPost b k m v L w w := ⟨v, h, Kept.refl _ _, .inl rfl⟩
theorem del_none {L : List En} {i : Int} (h : tm L i = none) : del L i = L := del_self (tm_none.1 h)
theorem drop_ok (b k m : Nat) (v : Value) (L : List En) (i : Int) (hi : I64 i) (w : World) (h : QW w b k m v L) : Calls Try.prog 16 #[.pointer (some ⟨b, 0, none⟩), .int .i64 i] w fun e w' => e = .returned (.bool (tm L i).isSome) ∧ QPost b k m v (del L i) w w' := by
  cases hn : tm L i with
  | none =>
    refine (drop_miss b k m v L i hi w h hn).mono ?_
    rintro e w' ⟨rfl, rfl⟩
    exact ⟨rfl, by rw [del_none hn]; exact QPost.refl h⟩
  | some t => exact drop_hit b k m v L i t hi w h hn

/-! ### Set -/
theorem set_no (p : Option Addr) (i t : Int) (w : World) (h : Inv w p) : Calls Try.prog 14 #[.pointer p, .int .i64 i, .int .i64 t] w fun e w' => e = .returned (.int .i64 1) ∧ w = w' := by
  go_enter Try.func14, Try.ntmps14
  go_wp2_with (go_at_call 30; refine (valid_no _ _ h).mono ?_; rintro e w' ⟨rfl, rfl⟩)
  go_ret
  exact ⟨rfl, rfl⟩
theorem set_neg (b k m : Nat) (v : Value) (L : List En) (i t : Int) (w : World) (h : QW w b k m v L) (ht : t < 0) : Calls Try.prog 14 #[.pointer (some ⟨b, 0, none⟩), .int .i64 i, .int .i64 t] w fun e w' => e = .returned (.int .i64 2) ∧ w = w' := by
  have hc := h.c
  clear h
  go_enter Try.func14, Try.ntmps14
  go_wp2_with (go_at_call 30; refine (valid_yes _ _ _ hc).mono ?_; rintro e w' ⟨rfl, rfl⟩)
  go_ret
  exact ⟨rfl, rfl⟩
theorem set_late (b k m : Nat) (v : Value) (L : List En) (i t : Int) (w : World) (h : QW w b k m v L) (ht0 : 0 ≤ t) (ht : 1099511627776 < t) : Calls Try.prog 14 #[.pointer (some ⟨b, 0, none⟩), .int .i64 i, .int .i64 t] w fun e w' => e = .returned (.int .i64 2) ∧ w = w' := by
  have hc := h.c
  clear h
  go_enter Try.func14, Try.ntmps14
  go_wp2_with (go_at_call 30; refine (valid_yes _ _ _ hc).mono ?_; rintro e w' ⟨rfl, rfl⟩)
  go_ret
  exact ⟨rfl, rfl⟩
theorem set_full (b k m : Nat) (v : Value) (L : List En) (i t : Int) (hi : I64 i) (w : World) (h : QW w b k m v L) (ht0 : 0 ≤ t) (ht : t ≤ 1099511627776) (hn : tm L i = none) (hl : L.length = 256) : Calls Try.prog 14 #[.pointer (some ⟨b, 0, none⟩), .int .i64 i, .int .i64 t] w fun e w' => e = .returned (.int .i64 4) ∧ w = w' := by
  have hc := h.c
  have hw := Lib.hid (when_ok b k m v L i hi w h)
  have hlen := Lib.hid (len_ok b k m v L w h)
  rw [hn] at hw
  rw [hl] at hlen
  clear h hn hl
  go_enter Try.func14, Try.ntmps14
  go_wp2_with (first
    | (go_at_call 30; refine (valid_yes _ _ _ hc).mono ?_; rintro e w' ⟨rfl, rfl⟩)
    | (go_at_call 25; refine hw.out.mono ?_; rintro e w' ⟨rfl, rfl⟩)
    | (go_at_call 27; refine hlen.out.mono ?_; rintro e w' ⟨rfl, rfl⟩))
  go_ret
  exact ⟨rfl, rfl⟩
theorem put_q (b k m : Nat) (v : Value) (L : List En) (i t : Int) (hi : I64 i) (w : World) (h : QW w b k m v L) (ht0 : 0 ≤ t) (ht : t ≤ 1099511627776) (hn : tm L i = none) (hl : L.length < 256) : Calls Try.prog 31 #[.pointer (some ⟨k, 0, none⟩), .int .i64 i, .int .i64 t] w fun e w' => e = .returned (.tuple #[]) ∧ QPost b k m v (ins L (i, t)) w w' := by
  have hx : i ∉ ids L := tm_none.1 hn
  have hx2 : ∀ e ∈ L, e.1 ≠ i := fun e he k => hx (mem_ids.2 ⟨e.2, by rw [← k]; exact he⟩)
  have h1 := put_ok k m L.length v (tm L) (ids L) i t hi ⟨by omega, by omega⟩ w h.line hn hx (by rw [ens_tm h.nod]; exact h.srt) (by rw [ids_length]; exact h.len) h.len
  rw [ens_tm h.nod] at h1
  refine h1.mono ?_
  rintro e w' ⟨rfl, v', hl', hk, hv⟩
  refine ⟨rfl, QPost.of h ⟨v', hl'.as (ins_length _ _).symm (fun j => ?_) ?_, hk, hv⟩ (h.srt.ins hx2) (h.nod.ins hx2) (fun e he => ?_) (by rw [ins_length]; omega)⟩
  · rw [tm_ins h.nod hx2]; rfl
  · rw [ins_eq h.srt]; unfold ids; simp [List.map_take, List.map_drop]
  · rcases mem_ins.1 he with rfl | he
    · exact ⟨ht0, ht⟩
    · exact h.rg e he
theorem QPost.lift {b k m : Nat} {v v1 : Value} {L' : List En} {w w1 w' : World} (hk : Kept (LFoot k m v) w w1) (hv : v1.ownBlock = v.ownBlock ∨ ∃ g, v1.ownBlock = some g ∧ w.heap.size ≤ g) (h : QPost b k m v1 L' w1 w') : QPost b k m v L' w w' := by
  obtain ⟨v', h1, h2, h3⟩ := h
  refine ⟨v', h1, hk.self (h2.mono fun g _ hg => ?_), ?_⟩
  · rcases hg with e | e | e
    · exact .inl (.inl e)
    · exact .inl (.inr (.inl e))
    · rcases hv with q | ⟨g', q, hq⟩
      · exact .inl (.inr (.inr (by rw [← q]; exact e)))
      · rw [q] at e
        exact .inr (by rw [← Option.some.inj e]; exact hq)
  · rcases h3 with e | ⟨g, e, hg⟩
    · rw [e]
      exact hv
    · exact .inr ⟨g, e, by have := hk.size; omega⟩
theorem set_put (b k m : Nat) (v : Value) (L : List En) (i t : Int) (hi : I64 i) (w : World) (h : QW w b k m v L) (ht0 : 0 ≤ t) (ht : t ≤ 1099511627776) (hnf : ¬ (tm L i = none ∧ L.length = 256)) : Calls Try.prog 14 #[.pointer (some ⟨b, 0, none⟩), .int .i64 i, .int .i64 t] w fun e w' => e = .returned (.int .i64 0) ∧ QPost b k m v (set L i t) w w' := by
  have hc := h.c
  have hw := Lib.hid (when_ok b k m v L i hi w h)
  have hlen := Lib.hid (len_ok b k m v L w h)
  have hdr := Lib.hid (drop_ok b k m v L i hi w h)
  have hlt : (del L i).length < 256 := by
    have h2 := h.len
    cases hn : tm L i with
    | none =>
      rw [del_none hn]
      have : L.length ≠ 256 := fun e => hnf ⟨hn, e⟩
      omega
    | some s =>
      have := del_length h.srt h.nod ((tm_some h.nod).1 hn)
      simp only at this
      omega
  have hpu : ∀ v1 w1, QW w1 b k m v1 (del L i) → Calls Try.prog 31 #[.pointer (some ⟨k, 0, none⟩), .int .i64 i, .int .i64 t] w1 fun e w' => e = .returned (.tuple #[]) ∧ QPost b k m v1 (set L i t) w1 w' := fun v1 w1 h1 =>
    put_q b k m v1 (del L i) i t hi w1 h1 ht0 ht (tm_none.2 (not_mem_del L i)) hlt
  have hpuh := Lib.hid hpu
  have hlen2 := h.len
  have HNF : L.length = 256 → (tm L i).isSome = true := fun e => by
    cases hn : tm L i with
    | none => exact absurd ⟨hn, e⟩ hnf
    | some s => rfl
  clear h hlt hpu hnf
  generalize tm L i = r at *
  generalize hN : L.length = N at *
  clear hN
  generalize set L i t = L2 at *
  generalize del L i = L1 at *
  cases hr : r.isSome with
  | true =>
    rw [hr] at hw hdr
    clear HNF hlen2 hlen
    go_enter Try.func14, Try.ntmps14
    go_wp2_with (first
      | (go_at_call 30; refine (valid_yes _ _ _ hc).mono ?_; rintro e w' ⟨rfl, rfl⟩)
      | (go_at_call 25; refine hw.out.mono ?_; rintro e w' ⟨rfl, rfl⟩)
      | (go_at_call 16; refine hdr.out.mono ?_; rintro e w2 ⟨rfl, v2, hq, hk, hv⟩; have HQ := Lib.hid hq; have HK := Lib.hid hk; have HV := Lib.hid hv; have hc2 := hq.c; clear hq hk hv)
      | (go_at_call 31; refine (hpuh.out _ _ HQ.out).mono ?_; rintro e w3 ⟨rfl, hp⟩; have HP := Lib.hid hp; clear hp))
    go_ret
    exact ⟨rfl, QPost.lift HK.out HV.out HP.out⟩
  | false =>
    have hN : N < 256 := by
      rcases Nat.lt_or_eq_of_le hlen2 with h | h
      · exact h
      · have := HNF h; rw [hr] at this; cases this
    rw [hr] at hw hdr
    clear HNF hlen2
    go_enter Try.func14, Try.ntmps14
    go_wp2_with (first
      | (go_at_call 30; refine (valid_yes _ _ _ hc).mono ?_; rintro e w' ⟨rfl, rfl⟩)
      | (go_at_call 25; refine hw.out.mono ?_; rintro e w' ⟨rfl, rfl⟩)
      | (go_at_call 27; refine hlen.out.mono ?_; rintro e w' ⟨rfl, rfl⟩)
      | (go_at_call 16; refine hdr.out.mono ?_; rintro e w2 ⟨rfl, v2, hq, hk, hv⟩; have HQ := Lib.hid hq; have HK := Lib.hid hk; have HV := Lib.hid hv; have hc2 := hq.c; clear hq hk hv)
      | (go_at_call 31; refine (hpuh.out _ _ HQ.out).mono ?_; rintro e w3 ⟨rfl, hp⟩; have HP := Lib.hid hp; clear hp))
    go_ret
    exact ⟨rfl, QPost.lift HK.out HV.out HP.out⟩
/-- What Set says, and what the queue holds then. -/
def setE (L : List En) (i t : Int) : Int := if t < 0 ∨ 1099511627776 < t then 2 else if tm L i = none ∧ L.length = 256 then 4 else 0
def setL (L : List En) (i t : Int) : List En := if setE L i t = 0 then set L i t else L
theorem set_ok (b k m : Nat) (v : Value) (L : List En) (i t : Int) (hi : I64 i) (w : World) (h : QW w b k m v L) : Calls Try.prog 14 #[.pointer (some ⟨b, 0, none⟩), .int .i64 i, .int .i64 t] w fun e w' => e = .returned (.int .i64 (setE L i t)) ∧ QPost b k m v (setL L i t) w w' := by
  unfold setL setE
  by_cases h1 : t < 0
  · rw [if_pos (.inl h1), if_neg (by decide)]
    refine (set_neg b k m v L i t w h h1).mono ?_
    rintro e w' ⟨rfl, rfl⟩
    exact ⟨rfl, QPost.refl h⟩
  · by_cases h2 : 1099511627776 < t
    · rw [if_pos (.inr h2), if_neg (by decide)]
      refine (set_late b k m v L i t w h (by omega) h2).mono ?_
      rintro e w' ⟨rfl, rfl⟩
      exact ⟨rfl, QPost.refl h⟩
    · rw [if_neg (by omega)]
      by_cases h3 : tm L i = none ∧ L.length = 256
      · rw [if_pos h3, if_neg (by decide)]
        refine (set_full b k m v L i t hi w h (by omega) (by omega) h3.1 h3.2).mono ?_
        rintro e w' ⟨rfl, rfl⟩
        exact ⟨rfl, QPost.refl h⟩
      · rw [if_neg h3, if_pos rfl]
        exact set_put b k m v L i t hi w h (by omega) (by omega) h3
end Go.Proofs.Ytlnjgbdekcgmpaa
