/- ExpireOnce: the walk. -/
import Derived.Test.YtlnjgbdekcgmpaaLEOnc
import Derived.Deep.CutRange
namespace Go.Proofs.Ytlnjgbdekcgmpaa
open Go.RowKit

/-- Which ids are seen when k of the entries R have come. -/
def seenF (l : List Int) (was : Int) (R : List En) (k : Nat) (j : Nat) : Bool := decide (l.getD j 0 ≤ was) || (R.take k).any fun e => e.1 == (j : Int)
theorem seenF_step {l : List Int} {was : Int} {R : List En} {k i : Nat} {t : Int} (h : R[k]? = some ((i : Int), t)) (j : Nat) : (seenF l was R k j || j == i) = seenF l was R (k + 1) j := by
  obtain ⟨hk, he⟩ := List.getElem?_eq_some_iff.1 h
  unfold seenF
  rw [List.take_succ_eq_append_getElem hk, List.any_append, Bool.or_assoc, he]
  congr 2
  simp only [List.any_cons, List.any_nil, Bool.or_false]
  by_cases e : j = i
  · subst e; simp
  · have e1 : (j == i) = false := beq_eq_false_iff_ne.2 e
    have e2 : ((i : Int) == (j : Int)) = false := beq_eq_false_iff_ne.2 (by omega)
    rw [e1, e2]
theorem seenF_new {l : List Int} {was : Int} {R : List En} (hn : Nod R) {k i : Nat} {t : Int} (h : R[k]? = some ((i : Int), t)) (hl : l.getD i 0 = t) (ht : was < t) : seenF l was R k i = false := by
  unfold seenF
  rw [hl, decide_eq_false (by omega), Bool.false_or, List.any_eq_false]
  intro e he
  obtain ⟨q, hq, rfl⟩ := List.getElem_of_mem he
  rw [List.length_take] at hq
  obtain ⟨hk, hk2⟩ := List.getElem?_eq_some_iff.1 h
  have := List.pairwise_iff_getElem.1 hn q k (by omega) hk (by omega)
  rw [hk2] at this
  simpa using this
theorem seenF_end {l : List Int} {n : Nat} {was now : Int} (hwn : was ≤ now) {j : Nat} (hj : j < n) :
    seenF l was (rest (fl l n) was) (due (rest (fl l n) was) now).length j = decide (l.getD j 0 ≤ now) := by
  unfold seenF
  have hs : Srt (rest (fl l n) was) := (fl_srt l n).filter _
  rw [← (due_eq hs now).1]
  have hx : ∀ s, ((j : Int), s) ∈ fl l n ↔ s = l.getD j 0 := fun s => by
    rw [mem_fl]
    constructor
    · rintro ⟨i, hi, e⟩
      have e1 := congrArg Prod.fst e
      have e2 := congrArg Prod.snd e
      simp only at e1 e2
      obtain rfl : i = j := by omega
      exact e2
    · rintro rfl; exact ⟨j, hj, rfl⟩
  by_cases h1 : l.getD j 0 ≤ was
  · rw [decide_eq_true h1, decide_eq_true (by omega), Bool.true_or]
  · rw [decide_eq_false h1, Bool.false_or]
    by_cases h2 : l.getD j 0 ≤ now
    · rw [decide_eq_true h2, List.any_eq_true]
      exact ⟨((j : Int), l.getD j 0), mem_due.2 ⟨mem_rest.2 ⟨(hx _).2 rfl, by omega⟩, h2⟩, by simp⟩
    · rw [decide_eq_false h2, List.any_eq_false]
      rintro ⟨a, s⟩ he hb
      have hb : a = (j : Int) := by simpa using hb
      subst hb
      obtain ⟨h3, h4⟩ := mem_due.1 he
      have := (hx s).1 (mem_rest.1 h3).1
      simp only at h4
      omega
theorem tm_rest {l : List Int} {n : Nat} {now : Int} {j : Nat} (hj : j < n) : tm (rest (fl l n) now) (j : Int) = if l.getD j 0 ≤ now then none else some (l.getD j 0) := by
  split
  · rename_i h
    rw [tm_none, mem_ids]
    rintro ⟨t, ht⟩
    obtain ⟨h1, h2⟩ := mem_rest.1 ht
    obtain ⟨i, hi, e⟩ := mem_fl.1 h1
    have e1 := congrArg Prod.fst e
    have e2 := congrArg Prod.snd e
    simp only at e1 e2 h2
    obtain rfl : j = i := by omega
    omega
  · rename_i h
    exact (tm_some ((fl_nod l n).rest now)).2 (mem_rest.2 ⟨mem_fl.2 ⟨j, hj, rfl⟩, by omega⟩)

/-- What the walk carries through the rounds of time. -/
def Lst (R : List En) (k : Nat) (la li : Int) : Prop := ∀ e ∈ R.drop k, lt (li, la) e = true
theorem Lst.step {R : List En} (hs : Srt R) {k : Nat} {e : En} (h : R[k]? = some e) : Lst R (k + 1) e.2 e.1 := fun x hx => by
  obtain ⟨hk, rfl⟩ := List.getElem?_eq_some_iff.1 h
  have h1 : Srt (R.drop k) := List.Pairwise.sublist (List.drop_sublist _ _) hs
  rw [List.drop_eq_getElem_cons hk] at h1
  exact (List.pairwise_cons.1 h1).1 x hx

set_option maxRecDepth 1000000 in
set_option maxHeartbeats 16000000 in
theorem eOnw_walk (a : Option Addr) (n c : Nat) (l : List Int) (a2 : Option Addr) (m c2 : Nat) (st : List Int) (w : World) (h : U8 w a n l) (hc : n ≤ c) (hcm : c ≤ 9223372036854775807) (h2 : U8 w a2 m st) (_hc2 : m ≤ c2) (_hcm2 : c2 ≤ 9223372036854775807) :
    Calls Try.prog 5 #[.slice a n c, .slice a2 m c2] w fun e w' => e = .returned (.bool true) ∧ Below w.heap.size w w' := by
  have H := Lib.hid h
  have H2 := Lib.hid h2
  by_cases hn : n ≤ 60 ∧ m ≤ 40
  · obtain ⟨hn, hm⟩ := hn
    have hb1 : decide ((60 : Int) < (n : Int)) = false := decide_eq_false (by omega)
    have hb2 : decide ((40 : Int) < (m : Int)) = false := decide_eq_false (by omega)
    have hln := Lib.hid h.len
    have F1 : Hid (Calls Try.prog 29 #[.slice a n c] w fun e w' => ∃ b, e = .returned (.pointer (some ⟨b, 0, none⟩)) ∧ Own w w' b (fl l n)) := filled_ok w a n c l w (Below.refl _ _) h hc hcm hn
    have hmk := fun W => make_bool n (by omega) W
    have hx0 : Hid (∀ e ∈ fl l n, 0 ≤ e.2 ∧ e.2 ≤ 255) := fun e he => by
      obtain ⟨i, hi, rfl⟩ := mem_fl.1 he
      have hil : i < l.length := by have := h.len; omega
      have := h.bd l[i] (List.getElem_mem hil)
      simp only [List.getD_eq_getElem?_getD, List.getElem?_eq_getElem hil, Option.getD_some]
      exact this
    have hget : Hid (∀ i x, l[i]? = some x → l.getD i 0 = x) := fun i x hx => by rw [List.getD_eq_getElem?_getD, hx]; rfl
    clear h h2
    go_enter Try.func5, Try.ntmps5
    go_wp2_with (go_at_call 29; (with_reducible refine F1.out.mono ?_); rintro e w1 ⟨b, rfl, ho⟩; have HO := Lib.hid ho; clear ho)
    have HS0 : Hid (OSt w (w1.alloc (.cells (seenC (fun _ => false) n) 4)) b w1.heap.size n (fl l n) (fun _ => false)) := OSt.make HO.out
    clear HO F1 hmk
    generalize hS : w1.heap.size = S at *
    clear hS
    have hs : Hid (Srt (fl l n) ∧ Nod (fl l n)) := ⟨fl_srt l n, fl_nod l n⟩
    have HS1 : Hid (OSt w (w1.alloc (.cells (seenC (fun _ => false) n) 4)) b S n (rest (fl l n) (-1)) (fun j => decide (l.getD j 0 ≤ -1))) := by
      have e1 : rest (fl l n) (-1) = fl l n := by
        unfold rest
        rw [List.filter_eq_self]
        intro e he
        have := (hx0.out e he).1
        simp; omega
      rw [e1]
      refine HS0.out.congr fun j hj => (decide_eq_false ?_).symm
      have := (hx0.out _ (mem_fl.2 ⟨j, hj, rfl⟩)).1
      simp only at this
      omega
    clear HS0
    go_loopw [6, 8, 9, 10] (fun s6 s8 s9 s10 wr => ∃ (i : Nat) (now la li : Int), s6 = .int .i64 now ∧ s8 = .int .i64 la ∧ s9 = .int .i64 li ∧ s10 = .int .i64 i ∧ i ≤ m + 1 ∧ -1 ≤ now ∧ now ≤ 1099511627776 ∧ (i ≤ m → now ≤ 31 * i) ∧ (i = m + 1 → now = 1099511627776) ∧ Hid (OSt w wr b S n (rest (fl l n) now) (fun j => decide (l.getD j 0 ≤ now))) ∧ Hid (Lst (rest (fl l n) now) 0 la li)) (fun _ _ _ s10 _ => m + 1 - (intOf s10).toNat)
    case atStart =>
      refine ⟨0, -1, -1, -1, rfl, rfl, rfl, rfl, by omega, by omega, by omega, fun _ => by omega, fun _ => by omega, HS1.out, ?_⟩
      show Lst _ 0 (-1) (-1)
      intro e he
      rw [List.drop_zero] at he
      have := (hx0.out e (mem_rest.1 he).1).1
      rw [lt_iff]; simp only; omega
    case round =>
      obtain ⟨i, now, la, li, rfl, rfl, rfl, rfl, hi, hnow0, hnow1, hA, hZ, HS2, HL⟩ := hrel
      by_cases hlt : i ≤ m
      · have hAi := hA hlt
        clear hA hZ
        obtain ⟨now1, hnow⟩ : ∃ now1 : Int, now1 = if i < m then now + (st.getD i 0) % 32 else 1099511627776 := ⟨_, rfl⟩
        have HNOW := Lib.hid hnow
        clear hnow
        go_upto_if 43 with fail
        go_cut [6] from 33 to 174 (fun s6 wx => s6 = .int .i64 now1 ∧ wx = wr)
        case first =>
          by_cases him : i < m
          · obtain ⟨g, off, x, rfl, hg, hcell, hx, hx0', hx1'⟩ := (H2.out.below HS2.out.bel).cell him
            obtain ⟨z, hz⟩ : ∃ z, x % 32 = z := ⟨_, rfl⟩
            have htz : x.tmod 32 = z := by rw [Int.tmod_eq_emod_of_nonneg hx0']; exact hz
            have hz0 : 0 ≤ z ∧ z ≤ 31 := by omega
            have hst : st.getD i 0 = x := by rw [List.getD_eq_getElem?_getD, hx]; rfl
            have HN1 : Hid (now1 = now + z) := by have := HNOW.out; rw [if_pos him, hst, hz] at this; exact this
            obtain ⟨hz0, hz1⟩ := hz0
            have hai : (i : Int) ≤ 40 := by omega
            clear hx hst hg
            go_wp2_with fail
            go_meet
            exact ⟨by rw [HN1.out], rfl⟩
          · have HN1 : Hid (now1 = 1099511627776) := by have := HNOW.out; rw [if_neg him] at this; exact this
            go_wp2_with fail
            go_meet
            exact ⟨by rw [HN1.out], rfl⟩
        case rest =>
          obtain ⟨rfl, rfl⟩ := hcut
          have hwn : now ≤ now1 := by
            have := HNOW.out
            split at this
            · have h32 : 0 ≤ st.getD i 0 % 32 := Int.emod_nonneg _ (by decide)
              omega
            · omega
          have HN2 : Hid (-1 ≤ now1 ∧ now1 ≤ 1099511627776 ∧ (i + 1 ≤ m → now1 ≤ 31 * (i + 1 : Nat)) ∧ (i + 1 = m + 1 → now1 = 1099511627776)) := by
            have := HNOW.out
            split at this
            · have h32 : st.getD i 0 % 32 < 32 := Int.emod_lt_of_pos _ (by decide)
              refine ⟨by omega, by omega, fun _ => by omega, fun h => by omega⟩
            · refine ⟨by omega, by omega, fun h => by omega, fun _ => this⟩
          clear HNOW
          obtain ⟨R, hR⟩ : ∃ R, rest (fl l n) now = R := ⟨_, rfl⟩
          obtain ⟨d, hd⟩ : ∃ d, (due R now1).length = d := ⟨_, rfl⟩
          have hsR : Srt R := by rw [← hR]; exact hs.out.1.rest now
          have hnR : Nod R := by rw [← hR]; exact hs.out.2.rest now
          have hrr : rest R now1 = rest (fl l n) now1 := by rw [← hR]; exact rest_rest hs.out.1 hwn
          have hdr := due_eq hsR now1
          rw [hd] at hdr
          have hd60 : d ≤ 60 := by
            have h1 : (due R now1).length ≤ R.length := List.length_filter_le _ _
            have h2 : R.length ≤ (fl l n).length := by rw [← hR]; exact List.length_filter_le _ _
            rw [fl_len] at h2
            omega
          have D1 : Hid (Calls Try.prog 19 #[.pointer (some ⟨b, 0, none⟩), .int .i64 now1] wc fun e w' => ∃ a c', e = .returned (.slice a d c') ∧ d ≤ c' ∧ c' ≤ 9223372036854775807 ∧ DSt w w' b S n (rest (fl l n) now1) (fun j => decide (l.getD j 0 ≤ now)) (.slice a d c') (ids (due R now1))) := by
            have := HS2.out
            rw [hR] at this
            have := o_due this now1
            rw [hd, hrr] at this
            exact this
          have HRF : Hid (Srt R ∧ Nod R ∧ rest (fl l n) now = R ∧ (due R now1).length = d ∧ due R now1 = R.take d ∧ rest (fl l n) now1 = R.drop d) := ⟨hsR, hnR, hR, hd, hdr.1, by rw [← hrr]; exact hdr.2⟩
          have HLR : Hid (Lst R 0 la li) := by have := HL.out; rw [hR] at this; exact this
          clear hR hd hsR hnR hrr hdr HS2 HL HS1
          go_wp2_with (go_at_call 19; (with_reducible refine D1.out.mono ?_); rintro e w3 ⟨a3, c3, rfl, hp1, hp2, hds⟩; have HDS := Lib.hid hds; clear hds)
          clear D1
          go_loopw [8, 9, 13] (fun s8 s9 s13 wx => ∃ (k : Nat) (la' li' : Int), s8 = .int .i64 la' ∧ s9 = .int .i64 li' ∧ s13 = .int .i64 k ∧ k ≤ d ∧ Hid (DSt w wx b S n (rest (fl l n) now1) (seenF l now R k) (.slice a3 d c3) (ids (due R now1))) ∧ Hid (Lst R k la' li')) (fun _ _ s13 _ => d - (intOf s13).toNat)
          case atStart => exact ⟨0, la, li, rfl, rfl, rfl, Nat.zero_le _, ⟨HDS.out.1.congr fun j _ => by simp [seenF], HDS.out.2⟩, HLR.out⟩
          case round =>
            obtain ⟨k, la', li', rfl, rfl, rfl, hk, HD, HL2⟩ := hrel
            clear HDS HLR
            by_cases hkd : k < d
            · obtain ⟨y, t, hy, hly, hDk, hyk, hwt, htn⟩ : ∃ (y : Nat) (t : Int), y < n ∧ l[y]? = some t ∧ R[k]? = some ((y : Int), t) ∧ (ids (due R now1))[k]? = some (y : Int) ∧ now < t ∧ t ≤ now1 := by
                obtain ⟨r1, r2, r3, r4, r5, r6⟩ := HRF.out
                have hq := due_kth hln.out hwn (k := k) (by rw [r3, r4]; exact hkd)
                rw [r3] at hq
                obtain ⟨y, t, h1, h2, h3, h4, h5, h6, _⟩ := hq
                refine ⟨y, t, h1, h2, ?_, h4, h5, h6⟩
                rw [r5, List.getElem?_take_of_lt hkd] at h3
                exact h3
              have hord : la' < t ∨ (la' = t ∧ li' < (y : Int)) := by
                have h0 : ((y : Int), t) ∈ R.drop k := List.mem_of_getElem? (show (R.drop k)[0]? = some ((y : Int), t) by rw [List.getElem?_drop]; exact hDk)
                have := HL2.out _ h0
                rw [lt_iff] at this
                exact this
              obtain ⟨g3, o3, rfl, hg3, hc3⟩ : ∃ g off, a3 = some ⟨g, off, none⟩ ∧ g < wr.heap.size ∧ wr.cell? ⟨g, off + k, none⟩ = some (.int .i64 (y : Int)) := by
                have hr := HD.out.2.1
                have hil : (ids (due R now1)).length = d := by rw [ids_length]; exact HRF.out.2.2.2.1
                rw [← hil] at hr
                obtain ⟨g, off, e1, e2, e3⟩ := hr.cell (j := k) (by rw [hil]; exact hkd)
                refine ⟨g, off, e1, e2, ?_⟩
                rw [e3, ← Option.some.inj ((List.getElem?_eq_getElem (by rw [hil]; exact hkd)).symm.trans hyk)]
              obtain ⟨hsc, hsf, hSl⟩ := HD.out.1.cell hy
              rw [seenF_new HRF.out.2.1 hDk (hget.out _ _ hly) hwt] at hsc
              obtain ⟨g, off, x, rfl, hg, hcl, hx, hx0', hx1'⟩ := (H.out.below HD.out.1.bel).cell hy
              obtain rfl : x = t := by rw [hly] at hx; exact (Option.some.inj hx).symm
              have p1 : decide ((y : Int) < 0) = false := decide_eq_false (by omega)
              have p2 : decide ((n : Int) ≤ (y : Int)) = false := decide_eq_false (by omega)
              have p3 : decide (x ≤ now) = false := decide_eq_false (by omega)
              have p4 : decide (now1 < x) = false := decide_eq_false (by omega)
              have HD2 : Hid (DSt w (wr.setCell ⟨S, y, none⟩ (.bool true)) b S n (rest (fl l n) now1) (seenF l now R (k + 1)) (.slice (some ⟨g3, o3, none⟩) d c3) (ids (due R now1))) := by
                have := HD.out.put y
                exact ⟨this.1.congr fun j _ => seenF_step hDk j, this.2⟩
              have HL3 : Hid (Lst R (k + 1) x (y : Int)) := Lst.step HRF.out.1 hDk
              clear hly hDk hyk hx hg hg3
              rcases hord with ho | ⟨rfl, ho⟩
              · have o1 : decide (x < la') = false := decide_eq_false (by omega)
                have o2 : (x == la') = false := beq_eq_false_iff_ne.2 (by omega)
                go_wp2
                go_roundw
                case rel => exact ⟨k + 1, x, (y : Int), rfl, rfl, by go_num, by omega, HD2.out, HL3.out⟩
                case measure => simp [intOf]; omega
              · have o3' : decide ((y : Int) ≤ li') = false := decide_eq_false (by omega)
                go_wp2
                go_roundw
                case rel => exact ⟨k + 1, la', (y : Int), rfl, rfl, by go_num, by omega, HD2.out, HL3.out⟩
                case measure => simp [intOf]; omega
            · obtain rfl : k = d := by omega
              have HO3 : Hid (OSt w wr b S n (rest (fl l n) now1) (fun j => decide (l.getD j 0 ≤ now1))) := HD.out.1.congr fun j hj => by
                obtain ⟨r1, r2, r3, r4, r5, r6⟩ := HRF.out
                have := seenF_end (l := l) hwn hj
                rw [r3, r4] at this
                exact this
              have HL3 : Hid (Lst (rest (fl l n) now1) 0 la' li') := by
                unfold Hid Lst
                rw [List.drop_zero, HRF.out.2.2.2.2.2]
                exact HL2.out
              clear HD HL2 HRF
              go_wp2
              go_loopw [16] (fun s16 wx => ∃ j : Nat, j ≤ n ∧ s16 = .int .i64 j ∧ Hid (OSt w wx b S n (rest (fl l n) now1) (fun j => decide (l.getD j 0 ≤ now1)))) (fun s16 _ => n - (intOf s16).toNat)
              case atStart => exact ⟨0, Nat.zero_le _, rfl, HO3.out⟩
              case round =>
                obtain ⟨j, hj, rfl, HO4⟩ := hrel
                clear HO3
                by_cases hjn : j < n
                · obtain ⟨g, off, x, rfl, hg, hcl, hx, hx0', hx1'⟩ := (H.out.below HO4.out.bel).cell hjn
                  obtain ⟨hsc, hsf, hSl⟩ := HO4.out.cell hjn
                  have hgx := hget.out _ _ hx
                  have hW := own_when HO4.out.own (i := (j : Int)) ⟨by omega, by omega⟩
                  rw [tm_rest hjn, hgx] at hW
                  rw [hgx] at hsc
                  clear hx hgx hg hsf
                  by_cases hxn : x ≤ now1
                  · rw [if_pos hxn] at hW
                    rw [decide_eq_true hxn] at hsc
                    have HWH : Hid (Calls Try.prog 25 #[.pointer (some ⟨b, 0, none⟩), .int .i64 (j : Int)] wr fun e w' => e = .returned (.tuple #[.int .i64 0, .bool false]) ∧ wr = w') := hW
                    have p1 : decide (now1 < x) = false := decide_eq_false (by omega)
                    clear hW
                    go_wp2_with (go_at_call 25; (with_reducible refine HWH.out.mono ?_); rintro e w5 ⟨rfl, rfl⟩)
                    go_roundw
                    case rel => exact ⟨j + 1, by omega, by go_num, HO4.out⟩
                    case measure => simp [intOf]; omega
                  · rw [if_neg hxn] at hW
                    rw [decide_eq_false hxn] at hsc
                    have HWH : Hid (Calls Try.prog 25 #[.pointer (some ⟨b, 0, none⟩), .int .i64 (j : Int)] wr fun e w' => e = .returned (.tuple #[.int .i64 x, .bool true]) ∧ wr = w') := hW
                    have p1 : decide (x ≤ now1) = false := decide_eq_false hxn
                    have p2 : (x != x) = false := by simp
                    clear hW
                    go_wp2_with (go_at_call 25; (with_reducible refine HWH.out.mono ?_); rintro e w5 ⟨rfl, rfl⟩)
                    go_roundw
                    case rel => exact ⟨j + 1, by omega, by go_num, HO4.out⟩
                    case measure => simp [intOf]; omega
                · obtain rfl : j = n := by omega
                  obtain ⟨n1, n2, n3, n4⟩ := HN2.out
                  clear HN2
                  go_wp2
                  go_roundw
                  case rel => exact ⟨i + 1, now1, la', li', rfl, rfl, rfl, by go_num, by omega, n1, n2, n3, n4, HO4.out, HL3.out⟩
                  case measure => simp [intOf]; omega
      · obtain rfl : i = m + 1 := by omega
        have hn2 := hZ rfl
        subst hn2
        clear hA hZ
        have he : rest (fl l n) 1099511627776 = [] := by
          unfold rest
          rw [List.filter_eq_nil_iff]
          intro e he
          have := (hx0.out e he).2
          simp; omega
        have L0 : Hid (Calls Try.prog 27 #[.pointer (some ⟨b, 0, none⟩)] wr fun e w' => e = .returned (.int .i64 0) ∧ wr = w') := by
          have := own_len HS2.out.own
          rw [he] at this
          exact this
        have HB := Lib.hid HS2.out.bel
        clear he HS2 HL HS1
        go_wp2_with (first
          | (go_at_call 27; (with_reducible refine L0.out.mono ?_); rintro e w4 ⟨rfl, rfl⟩)
          | (go_at_call 11; refine (works_ok _).mono ?_; rintro e w10 ⟨rfl, hb⟩; have HW := Lib.hid (HB.out.trans (hb.mono HB.out.size)); clear hb))
        go_ret
        exact ⟨rfl, HW.out⟩
  · have hn' : 60 < n ∨ (n ≤ 60 ∧ 40 < m) := by omega
    rcases hn' with h60 | ⟨h60, h40⟩
    · have hb1 : decide ((60 : Int) < (n : Int)) = true := decide_eq_true (by omega)
      clear h h2 hn
      go_enter Try.func5, Try.ntmps5
      go_wp2_with (go_at_call 11; refine (works_ok _).mono ?_; rintro e w2 ⟨rfl, hb⟩; have HW := Lib.hid hb; clear hb)
      go_ret
      exact ⟨rfl, HW.out⟩
    · have hb1 : decide ((60 : Int) < (n : Int)) = false := decide_eq_false (by omega)
      have hb2 : decide ((40 : Int) < (m : Int)) = true := decide_eq_true (by omega)
      clear h h2 hn
      go_enter Try.func5, Try.ntmps5
      go_wp2_with (go_at_call 11; refine (works_ok _).mono ?_; rintro e w2 ⟨rfl, hb⟩; have HW := Lib.hid hb; clear hb)
      go_ret
      exact ⟨rfl, HW.out⟩
end Go.Proofs.Ytlnjgbdekcgmpaa
