/- The walk of HeapRoom: it returns true for every input. -/
import Derived.Test.YtfnhkapbfgofkaaWw
import Derived.Test.YtfnhkapbfgofkaaWx
import Derived.Test.YtfnhkapbfgofkaaWta
namespace Go.Proofs.Ytfnhkapbfgofkaa
open Go.RowKit

/-- The first slot whose place in the list of the held ones it isn't. -/
theorem room_out {T : Tb} {a : Nat} (h1 : ∀ j, j < a → T.held[j]? = some j) (h2 : ∀ i, T.held[a]? = some i → i ≠ a) : T.s a ≠ 1 ∨ T.n ≤ a := by
  by_cases c : T.n ≤ a
  · exact .inr c
  · refine .inl fun e => ?_
    have hm : a ∈ T.held := mem_sel.2 ⟨by omega, e⟩
    obtain ⟨i, hi, e2⟩ := List.mem_iff_getElem.1 hm
    have hs := List.pairwise_iff_getElem.1 (sel_sorted T.s 1 T.n)
    have e3 : T.held[i]? = some a := by rw [List.getElem?_eq_getElem hi, e2]
    have key : ∀ j, j ≤ i → ∀ x, T.held[j]? = some x → j ≤ x := fun j => by
      induction j with
      | zero => intros; omega
      | succ j ih =>
        intro hj x hx
        have hjl : j < T.held.length := by omega
        have := ih (by omega) _ (List.getElem?_eq_getElem hjl)
        obtain ⟨hl, ex⟩ := List.getElem?_eq_some_iff.1 hx
        have h4 := hs j (j + 1) hjl hl (by omega)
        have h5 : T.held[j + 1] = x := ex
        have h6 : T.held[j] < T.held[j + 1] := h4
        omega
    by_cases ci : i < a
    · have := h1 i ci
      rw [e3] at this
      have := Option.some.inj this
      omega
    · by_cases c2 : i = a
      · subst c2; exact h2 _ e3 rfl
      · have := key i (Nat.le_refl _) a e3
        omega
theorem held_low {T : Tb} {a : Nat} (h1 : ∀ j, j < a → T.held[j]? = some j) : ∀ j, j < a → T.s j = 1 ∧ j < T.n := fun j hj => by
  obtain ⟨h2, h3⟩ := mem_sel.1 (List.mem_of_getElem? (h1 j hj))
  exact ⟨h3, h2⟩
theorem bel3 {w a b : World} (h1 : Below w.heap.size w a) (h2 : Below a.heap.size a b) : Below w.heap.size w b := h1.trans (h2.mono h1.size)
/-- Where a slot is free, the lowest one is that which is no held one's place. -/
theorem room_in {H : Hp} {n k y i : Nat} {rr : List Nat} {R Q : List (Nat × Nat)} {N : Nat × Nat → Option (List Rf)} (h : Mo H n 1 k R Q N) (hk : k ≤ 200) (hlow : ∀ j, j < y → H.t.s j = 1 ∧ j < H.t.n) (hout : H.t.s y ≠ 1 ∨ H.t.n ≤ y) (hf : H.t.free = i :: rr) : i = y ∧ H.t.s i = 0 ∧ i < H.t.n ∧ H.t.g i ≤ 300 := by
  obtain ⟨hi, hs⟩ := Tb.free_lt hf
  have hg : ∀ j, j < H.t.n → H.t.g j ≤ 300 := fun j hj => by have := h.hi j (by rw [← h.nn]; exact hj); omega
  have hyn : y < H.t.n := by
    by_cases c : y < H.t.n
    · exact c
    · exfalso
      have := (hlow i (by omega)).1
      omega
  have hy0 : H.t.s y = 0 := by
    have h2 := h.ok.t.st y
    have h3 : H.t.s y ≠ 1 := hout.resolve_right (by omega)
    have h4 : H.t.s y ≠ 2 := fun e => by
      have := h.ret y (by rw [← h.nn]; exact hyn) e
      have := hg y hyn
      omega
    omega
  obtain ⟨r2, h2⟩ := free_head (T := H.t) (i := y) (fun j hj => by rw [(hlow j hj).1]; decide) hy0 hyn
  rw [hf] at h2
  obtain ⟨rfl, _⟩ := List.cons.inj h2
  exact ⟨rfl, hs, hi, hg _ hi⟩
set_option maxHeartbeats 8000000 in
set_option maxRecDepth 100000 in
theorem wRoo_walk (x0 : Int) (a : Option Addr) (len cap : Nat) (s : Nat → Trn) (w : World) (h00 : 0 ≤ x0) (h01 : x0 ≤ 255) (_ : len ≤ cap) (_ : cap ≤ 9223372036854775807) (hu : Trns w a len s) :
    Calls Try.prog 7 #[.int .u8 x0, .slice a len cap] w fun e w' => e = .returned (.bool true) ∧ Below w.heap.size w w' := by
  obtain ⟨x, rfl⟩ : ∃ x : Nat, x0 = x := ⟨x0.toNat, by omega⟩
  have hx : x ≤ 255 := by omega
  have hx2 : (x : Int) ≤ 255 := by omega
  by_cases hlen : 120 < len
  · have hlen2 : (120 : Int) < len := by omega
    go_enter Try.func7, Try.ntmps7
    go_wp2_with (go_at_call 11; refine (works_ok _).mono ?_; rintro e w5 ⟨rfl, hb⟩; have HB := Lib.hid hb; clear hb)
    go_ret
    exact ⟨rfl, HB.out⟩
  have hlen2 : (len : Int) ≤ 120 := by omega
  have BG := Lib.hid (begin_one x w hx)
  have HU := Lib.hid hu
  clear hu
  go_enter Try.func7, Try.ntmps7
  go_wp2_with (go_at_call 31; refine BG.out.mono ?_; rintro e w1 ⟨mb, b, rfl, HM0⟩)
  clear BG
  have hw0 : IntKind.i64.wrap (x : Int) = (x : Int) := by rw [IntKind.wrap_i64]; omega
  have hw1 : IntKind.i64.wrap (1 + (x : Int)) = 1 + (x : Int) := by rw [IntKind.wrap_i64]; omega
  go_loopw [6] (fun v wr => ∃ k : Nat, k ≤ len ∧ v = .int .i64 k ∧ Hid (Ms w wr mb b (1 + x) 1 k)) (fun v _ => len - (intOf v).toNat)
  case atStart => exact ⟨0, Nat.zero_le _, rfl, HM0.out⟩
  case round =>
    obtain ⟨k, hk, rfl, HM⟩ := hrel
    clear HM0
    by_cases hlt : k < len
    · obtain ⟨B, off, rfl, hB, hcells⟩ := (HU.out.below HM.out.bel).at_ (show 0 < len by omega)
      have hT := HU.out.bd k hlt
      have TK : Hid (∀ X, Ms w X mb b (1 + x) 1 k → Calls Try.prog 32 #[.pointer (some ⟨mb, 0, none⟩), .agg #[.int .u8 (s k).kind, .int .u8 (s k).i, .int .u8 (s k).k]] X fun e w' => e = .returned (.bool true) ∧ Hid (Ms w w' mb b (1 + x) 1 (k + 1))) := fun X hX => turn_ok (s k) hT hX (by omega)
      have KS : Hid (∀ X k', Ms w X mb b (1 + x) 1 k' → X.cell? ⟨mb, 0, none⟩ = some (.pointer (some ⟨b, 0, none⟩)) ∧ X.cell? ⟨B, off + k * 3, none⟩ = some (.int .u8 (s k).kind) ∧ X.cell? ⟨B, off + k * 3 + 1, none⟩ = some (.int .u8 (s k).i) ∧ X.cell? ⟨B, off + k * 3 + 2, none⟩ = some (.int .u8 (s k).k)) := fun X k' hX => by
        have hbm : X.cell? ⟨mb, 0, none⟩ = some (.pointer (some ⟨b, 0, none⟩)) := by
          obtain ⟨p, tt, M, e, H, pR, qR, cR, R, pQ, qQ, cQ, Q, N, P, hb, hm, he⟩ := hX
          exact hb.bm.cell 0
        obtain ⟨B', off', e1, _, hc⟩ := (HU.out.below hX.bel).at_ (show 0 < len by omega)
        obtain ⟨rfl, rfl⟩ : B = B' ∧ off = off' := by simpa using e1
        exact ⟨hbm, hc k hlt 0 _ rfl, hc k hlt 1 _ rfl, hc k hlt 2 _ rfl⟩
      have LN : Hid (∀ X, Ms w X mb b (1 + x) 1 (k + 1) → ∃ l h : Nat, l + h = 1 + x ∧ Hid (∀ Y, Below X.heap.size X Y → Calls Try.prog 30 #[.pointer (some ⟨b, 0, none⟩)] Y fun e w' => e = .returned (.int .i64 l) ∧ Below Y.heap.size Y w') ∧ Hid (∀ Y, Below X.heap.size X Y → Calls Try.prog 29 #[.pointer (some ⟨b, 0, none⟩)] Y fun e w' => e = .returned (.int .i64 h) ∧ Below Y.heap.size Y w')) := fun X hX => by
        obtain ⟨p, tt, M, e, H, pR, qR, cR, R, pQ, qQ, cQ, Q, N, P, hb, hm, he⟩ := hX
        exact ⟨H.t.free.length, H.t.held.length, hm.sum (by omega), fun Y hY => left_s _ (hb.st.quiet hY) rfl, fun Y hY => len_s _ (hb.st.quiet hY) rfl⟩
      have DR := Lib.hid (HM.out.quiet (bel_dr wr))
      obtain ⟨s0, s1, s2, s3⟩ := KS.out _ _ HM.out
      clear hcells hT
      generalize (s k).kind = T0 at *
      generalize (s k).i = T1 at *
      generalize (s k).k = T2 at *
      go_upto_region 9 with fail
      go_region_held3 (fun X => X.cell? ⟨mb, 0, none⟩ = some (.pointer (some ⟨b, 0, none⟩)) ∧ X.cell? ⟨B, off + k * 3, none⟩ = some (.int .u8 T0) ∧ X.cell? ⟨B, off + k * 3 + 1, none⟩ = some (.int .u8 T1) ∧ X.cell? ⟨B, off + k * 3 + 2, none⟩ = some (.int .u8 T2)) (first | (with_reducible assumption) | exact KS.out _ _ DR.out) (first
        | (go_at_call 32; refine (TK.out _ DR.out).mono ?_; rintro e w5 ⟨rfl, HM5⟩; obtain ⟨l, h, hlh, FL, FN⟩ := LN.out _ HM5.out; have hz5 := KS.out _ _ HM5.out; have hs5 : IntKind.i64.wrap ((l : Int) + (h : Int)) = 1 + (x : Int) := by rw [IntKind.wrap_i64]; omega)
        | (go_at_call 30; refine (FL.out _ (Below.refl _ _)).mono ?_; rintro e w6 ⟨rfl, hb6⟩; have HB6 := Lib.hid hb6; have hz6 := KS.out _ _ (HM5.out.quiet hb6); clear hb6)
        | (go_at_call 29; refine (FN.out _ HB6.out).mono ?_; rintro e w7 ⟨rfl, hb7⟩; have HM7 := Lib.hid ((HM5.out.quiet HB6.out).quiet hb7); have hz7 := KS.out _ _ HM7.out; clear hb7))
      all_goals
        go_wp2
        exact ⟨⟨k + 1, by omega, by go_num, HM7.out⟩, by simp [intOf]; omega⟩
    · obtain rfl : k = len := by omega
      obtain ⟨p, tt, M, e, H, pR, qR, cR, R, pQ, qQ, cQ, Q, N, P, hMb, hMo, _⟩ := HM.out
      have BMb := Lib.hid hMb
      have BMo := Lib.hid hMo
      have b0 : wr.cell? ⟨mb, 0, none⟩ = some (.pointer (some ⟨b, 0, none⟩)) := hMb.bm.cell 0
      have hhl := H.t.held_len hMo.ok.t
      have hnl := Lib.hid H.t.now_len
      have hsum := hMo.sum (by omega)
      have AL := Lib.hid (all_s _ hMb.st rfl)
      clear hMb hMo HM
      go_wp2_with (go_at_call 28; refine AL.out.mono ?_; rintro e w6 ⟨v, rfl, hrow, _, hb6⟩; obtain ⟨pA, cA, rfl⟩ := own_ref hrow; have HB6 := Lib.hid hb6; have ROW := Lib.hid hrow; clear hb6 hrow)
      have RA : Hid (∀ j i : Nat, H.t.held[j]? = some i → ∃ g, pA = some ⟨g, 0, none⟩ ∧ H.t.now.length ≤ cA ∧ w6.cell? ⟨g, j * 2, none⟩ = some (.int .i64 i)) := fun j i hj => by
        have hjl : j < H.t.now.length := by rw [H.t.now_len]; exact (List.getElem?_eq_some_iff.1 hj).1
        obtain ⟨g, e1, e2, _, _, _, hc⟩ := row_at ROW.out rfl (by omega)
        exact ⟨g, e1, e2, (hc j (i, H.t.g i) (by simp [Tb.now, Tb.refs, hj])).1⟩
      have hSX := BMb.out.quiet HB6.out
      have SX := Lib.hid hSX
      have q0 : w6.cell? ⟨mb, 0, none⟩ = some (.pointer (some ⟨b, 0, none⟩)) := hSX.bm.cell 0
      have BW := Lib.hid hSX.st.bel
      clear hSX AL b0 ROW
      generalize hLn : H.t.now.length = Ln at *
      go_loopw [8] (fun v wz => ∃ y : Nat, y ≤ Ln ∧ v = .int .i64 y ∧ w6 = wz ∧ Hid (∀ j, j < y → H.t.held[j]? = some j)) (fun v _ => Ln - (intOf v).toNat)
      case atStart => exact ⟨0, Nat.zero_le _, rfl, rfl, fun j hj => by omega⟩
      case round =>
        obtain ⟨y, hy, rfl, rfl, HY⟩ := hrel
        by_cases hyl : y < Ln
        · obtain ⟨i, hi⟩ : ∃ i, H.t.held[y]? = some i := ⟨_, List.getElem?_eq_getElem (by have := hnl.out; omega)⟩
          obtain ⟨g, rfl, hca, hcell⟩ := RA.out y i hi
          by_cases hiy : i = y
          · subst hiy
            have HI := Lib.hid hi
            have hwi : IntKind.i64.wrap ((i : Int) + 1) = (i : Int) + 1 := by rw [IntKind.wrap_i64]; have := hnl.out; omega
            clear hi
            go_wp2
            go_roundw
            case rel => exact ⟨i + 1, by have := hnl.out; omega, by go_num, by first | rfl | trivial, fun j hj => by
              by_cases c : j < i
              · exact HY.out j c
              · obtain rfl : j = i := by omega
                exact HI.out⟩
            case measure => simp [intOf]; have := hnl.out; omega
          · have hne : ((i : Int) == (y : Int)) = false := by simpa using (by omega : ¬ (i : Int) = y)
            have RO := Lib.hid (room_out HY.out (fun i' h' e => hiy (by rw [hi] at h'; exact (Option.some.inj h').trans e)))
            clear hi
            cases hfree : H.t.free with
            | nil =>
              have LF := Lib.hid (left_s 0 SX.out.st (by rw [hfree]; rfl))
              have MK : Hid (∀ X, HSt w X b p tt H → Calls Try.prog 14 #[.pointer (some ⟨b, 0, none⟩), .int .i64 1, .bool false] X fun e w' => e = .returned (.tuple #[.agg #[.int .i64 0, .int .u32 0], .int .i64 4]) ∧ HSt w w' b p tt H) := fun X hX => by
                obtain ⟨a1, a2, a3⟩ := Hp.make_full (H := H) (n := 1) (hd := false) (mk_poss (by decide) (by decide) (fun e => by cases e)) hfree
                refine (make_s 1 false _ _ ⟨by decide, by decide⟩ hX a2 a1).mono ?_
                rintro e w' ⟨h1, h2, h3⟩
                rw [a3] at h2
                exact ⟨h1, h2⟩
              clear hfree
              go_wp2_with (first
                | (go_at_call 30; refine LF.out.mono ?_; rintro e w7 ⟨rfl, hb7⟩; have q7 : w7.cell? ⟨mb, 0, none⟩ = some (.pointer (some ⟨b, 0, none⟩)) := (SX.out.bm.below hb7).cell 0; have S7 := Lib.hid (SX.out.st.quiet hb7); clear hb7)
                | (go_at_call 14; refine (MK.out _ S7.out).mono ?_; rintro e w8 ⟨rfl, hS8⟩; have B8 := Lib.hid (bel3 hS8.bel (bel_new w8 (.cells #[.int .i64 0, .int .u32 0] 34))); clear hS8)
                | (go_at_call 11; refine (works_ok _).mono ?_; rintro e w9 ⟨rfl, hb9⟩; have HB9 := Lib.hid (bel3 B8.out hb9); clear hb9))
              go_ret
              exact ⟨rfl, HB9.out⟩
            | cons i rr =>
              obtain ⟨rfl, hiy0, hin, hgi⟩ := room_in BMo.out (by omega) (held_low HY.out) RO.out hfree
              obtain ⟨m, hm⟩ : ∃ m, rr.length = m := ⟨_, rfl⟩
              have hfl : H.t.free.length = m + 1 := by rw [hfree, List.length_cons, hm]
              obtain ⟨l, hlm⟩ : ∃ l, m + 1 = l := ⟨_, rfl⟩
              rw [hlm] at hfl
              have hl0 : ((l : Int) == 0) = false := by simpa using (by omega : ¬ (l : Int) = 0)
              have LF := Lib.hid (left_s l SX.out.st hfl)
              obtain ⟨H2, hH2⟩ : ∃ H2, H2 = (⟨H.t.took i, putO H.o i (mk 1 false)⟩ : Hp) := ⟨_, rfl⟩
              obtain ⟨gi, hgi2⟩ : ∃ gi, H.t.g i = gi := ⟨_, rfl⟩
              have MK : Hid (∀ X, HSt w X b p tt H → Calls Try.prog 14 #[.pointer (some ⟨b, 0, none⟩), .int .i64 1, .bool false] X fun e w' => e = .returned (.tuple #[.agg #[.int .i64 i, .int .u32 gi], .int .i64 0]) ∧ HSt w w' b p tt H2 ∧ Kept (HFoot b p tt) X w') := fun X hX => by
                obtain ⟨a1, a2, a3⟩ := Hp.make_yes (H := H) (n := 1) (hd := false) (mk_poss (by decide) (by decide) (fun e => by cases e)) hfree
                rw [hgi2] at a2
                refine (make_s 1 false _ _ ⟨by decide, by decide⟩ hX a2 a1).mono ?_
                rintro e w' ⟨h1, h2, h3⟩
                rw [a3, ← hH2] at h2
                exact ⟨h1, h2, h3⟩
              have L1 : Hid (∀ X, HSt w X b p tt H2 → Calls Try.prog 30 #[.pointer (some ⟨b, 0, none⟩)] X fun e w' => e = .returned (.int .i64 m) ∧ Below X.heap.size X w') := fun X hX => left_s m hX (by
                rw [hH2]
                have := sel_put_len (f := H.t.s) (v := 0) (u := 1) hin
                rw [if_pos hiy0, if_neg (by decide)] at this
                have e2 : (sel H.t.s 0 H.t.n).length = l := hfl
                show (sel (put H.t.s i 1) 0 H.t.n).length = m
                omega)
              have FR : Hid (∀ X, HSt w X b p tt H2 → Calls Try.prog 16 #[.pointer (some ⟨b, 0, none⟩), .agg #[.int .i64 i, .int .u32 gi]] X fun e w' => e = .returned (.int .i64 0) ∧ HSt w w' b p tt (H2.freed ((i : Int), (gi : Int))) ∧ Kept (HFoot b p tt) X w') := fun X hX =>
                free_s i gi 0 hX (by rw [hH2]; exact Hp.chk_is (H := ⟨H.t.took i, putO H.o i (mk 1 false)⟩) hin (put_same _ _ _) (by rw [← hgi2]; rfl))
              have L2 : Hid (∀ X, HSt w X b p tt (H2.freed ((i : Int), (gi : Int))) → Calls Try.prog 30 #[.pointer (some ⟨b, 0, none⟩)] X fun e w' => e = .returned (.int .i64 l) ∧ Below X.heap.size X w') := fun X hX => left_s l hX (by
                rw [hH2]
                have hc2 : (H.t.took i).chk i gi = 0 := by rw [← hgi2]; exact Tb.chk_held (T := H.t.took i) hin (put_same _ _ _)
                show ((H.t.took i).given i gi).free.length = l
                unfold Tb.given
                rw [if_pos hc2, Int.toNat_natCast]
                unfold Tb.gave
                rw [if_neg (show (H.t.took i).g i ≠ 4294967295 by show H.t.g i ≠ _; omega)]
                have h3 := sel_put_len (f := H.t.s) (v := 0) (u := 1) hin
                rw [if_pos hiy0, if_neg (by decide)] at h3
                have h4 := sel_put_len (f := put H.t.s i 1) (v := 0) (u := 0) hin
                rw [put_same, if_neg (by decide), if_pos rfl] at h4
                have e2 : (sel H.t.s 0 H.t.n).length = l := hfl
                show (sel (put (put H.t.s i 1) i 0) 0 H.t.n).length = l
                omega)
              have hwl : IntKind.i64.wrap ((l : Int) - 1) = (m : Int) := by rw [IntKind.wrap_i64]; have := H.t.held_len BMo.out.ok.t; omega
              clear hfree hiy0 hin hgi hm hfl hH2 hgi2
              go_upto_region 19 with (first
                | (go_at_call 30; refine LF.out.mono ?_; rintro e w7 ⟨rfl, hb7⟩; have q7 : w7.cell? ⟨mb, 0, none⟩ = some (.pointer (some ⟨b, 0, none⟩)) := (SX.out.bm.below hb7).cell 0; have M7 := Lib.hid (SX.out.quiet hb7); clear hb7)
                | (go_at_call 14; refine (MK.out _ M7.out.st).mono ?_; rintro e w8 ⟨rfl, hS8, hk8⟩; have S8 := Lib.hid (And.intro hS8 (M7.out.bm.kept hk8 M7.out.fm)); clear hS8 hk8))
              obtain ⟨W, hW⟩ : ∃ W, w8.alloc (.cells #[.int .i64 (i : Nat), .int .u32 (gi : Nat)] 34) = W := ⟨_, rfl⟩
              have SW : Hid (HSt w W b p tt H2) := by rw [← hW]; exact S8.out.1.quiet (bel_new _ _)
              have KS : Hid (∀ X, Kept (HFoot b p tt) W X → Kept (HFoot b p tt) W X ∧ X.cell? ⟨mb, 0, none⟩ = some (.pointer (some ⟨b, 0, none⟩)) ∧ X.cell? ⟨w8.heap.size, 0, none⟩ = some (.int .i64 i) ∧ X.cell? ⟨w8.heap.size, 1, none⟩ = some (.int .u32 gi)) := fun X hk => by
                have hbm := S8.out.2.below (bel_new w8 (.cells #[.int .i64 (i : Nat), .int .u32 (gi : Nat)] 34)); rw [hW] at hbm
                have hbx : Bk W w8.heap.size 34 #[.int .i64 (i : Nat), .int .u32 (gi : Nat)] := by rw [← hW]; exact Bk.new w8 _ _
                have q1 := hbm.kept hk (SW.out.f.box hbm (by decide) (by decide) (by decide))
                have q2 := hbx.kept hk (SW.out.f.box hbx (by decide) (by decide) (by decide))
                exact ⟨hk, q1.cell 0, q2.cell 0, q2.cell 1⟩
              rw [hW]
              clear hW q7 q0 S8
              generalize w8.heap.size = B8 at *
              go_region_held3 (fun X => Kept (HFoot b p tt) W X ∧ X.cell? ⟨mb, 0, none⟩ = some (.pointer (some ⟨b, 0, none⟩)) ∧ X.cell? ⟨B8, 0, none⟩ = some (.int .i64 i) ∧ X.cell? ⟨B8, 1, none⟩ = some (.int .u32 gi)) (first | (with_reducible assumption) | exact KS.out _ (Kept.refl _ W).drew) (first
                | (go_at_call 30; refine (L2.out _ S10.out).mono ?_; rintro e w11 ⟨rfl, hb11⟩; have S11 := Lib.hid (S10.out.quiet hb11); have HK11 := Lib.hid (HK10.out.trans (Kept.of_below hb11)); have hz11 := KS.out _ HK11.out; clear hb11)
                | (go_at_call 30; refine (L1.out _ (SW.out.quiet (bel_dr W))).mono ?_; rintro e w9 ⟨rfl, hb9⟩; have S9 := Lib.hid ((SW.out.quiet (bel_dr W)).quiet hb9); have HK9 := Lib.hid ((Kept.refl (HFoot b p tt) W).drew.trans (Kept.of_below hb9)); have hz9 := KS.out _ HK9.out; clear hb9)
                | (go_at_call 16; refine (FR.out _ S9.out).mono ?_; rintro e w10 ⟨rfl, hs10, hk10⟩; have S10 := Lib.hid hs10; have HK10 := Lib.hid (HK9.out.trans hk10); have hz10 := KS.out _ HK10.out; clear hs10 hk10)
                | (go_at_call 11; refine (works_ok _).mono ?_; rintro e w12 ⟨rfl, hb12⟩; have HB12 := Lib.hid (bel3 S11.out.bel hb12); have hz12 := KS.out _ (HK11.out.trans (Kept.of_below hb12)); clear hb12))
              all_goals
                go_wp2
                go_ret
                exact ⟨rfl, HB12.out⟩
        · obtain rfl : y = Ln := by omega
          have RO := Lib.hid (room_out HY.out (fun i' h' e => by
            have := (List.getElem?_eq_some_iff.1 h').1
            have := hnl.out
            omega))
          clear hnl
          cases hfree : H.t.free with
          | nil =>
            have LF := Lib.hid (left_s 0 SX.out.st (by rw [hfree]; rfl))
            have MK : Hid (∀ X, HSt w X b p tt H → Calls Try.prog 14 #[.pointer (some ⟨b, 0, none⟩), .int .i64 1, .bool false] X fun e w' => e = .returned (.tuple #[.agg #[.int .i64 0, .int .u32 0], .int .i64 4]) ∧ HSt w w' b p tt H) := fun X hX => by
              obtain ⟨a1, a2, a3⟩ := Hp.make_full (H := H) (n := 1) (hd := false) (mk_poss (by decide) (by decide) (fun e => by cases e)) hfree
              refine (make_s 1 false _ _ ⟨by decide, by decide⟩ hX a2 a1).mono ?_
              rintro e w' ⟨h1, h2, h3⟩
              rw [a3] at h2
              exact ⟨h1, h2⟩
            clear hfree
            go_wp2_with (first
              | (go_at_call 30; refine LF.out.mono ?_; rintro e w7 ⟨rfl, hb7⟩; have q7 : w7.cell? ⟨mb, 0, none⟩ = some (.pointer (some ⟨b, 0, none⟩)) := (SX.out.bm.below hb7).cell 0; have S7 := Lib.hid (SX.out.st.quiet hb7); clear hb7)
              | (go_at_call 14; refine (MK.out _ S7.out).mono ?_; rintro e w8 ⟨rfl, hS8⟩; have B8 := Lib.hid (bel3 hS8.bel (bel_new w8 (.cells #[.int .i64 0, .int .u32 0] 34))); clear hS8)
              | (go_at_call 11; refine (works_ok _).mono ?_; rintro e w9 ⟨rfl, hb9⟩; have HB9 := Lib.hid (bel3 B8.out hb9); clear hb9))
            go_ret
            exact ⟨rfl, HB9.out⟩
          | cons i rr =>
            obtain ⟨rfl, hiy0, hin, hgi⟩ := room_in BMo.out (by omega) (held_low HY.out) RO.out hfree
            obtain ⟨m, hm⟩ : ∃ m, rr.length = m := ⟨_, rfl⟩
            have hfl : H.t.free.length = m + 1 := by rw [hfree, List.length_cons, hm]
            obtain ⟨l, hlm⟩ : ∃ l, m + 1 = l := ⟨_, rfl⟩
            rw [hlm] at hfl
            have hl0 : ((l : Int) == 0) = false := by simpa using (by omega : ¬ (l : Int) = 0)
            have LF := Lib.hid (left_s l SX.out.st hfl)
            obtain ⟨H2, hH2⟩ : ∃ H2, H2 = (⟨H.t.took i, putO H.o i (mk 1 false)⟩ : Hp) := ⟨_, rfl⟩
            obtain ⟨gi, hgi2⟩ : ∃ gi, H.t.g i = gi := ⟨_, rfl⟩
            have MK : Hid (∀ X, HSt w X b p tt H → Calls Try.prog 14 #[.pointer (some ⟨b, 0, none⟩), .int .i64 1, .bool false] X fun e w' => e = .returned (.tuple #[.agg #[.int .i64 i, .int .u32 gi], .int .i64 0]) ∧ HSt w w' b p tt H2 ∧ Kept (HFoot b p tt) X w') := fun X hX => by
              obtain ⟨a1, a2, a3⟩ := Hp.make_yes (H := H) (n := 1) (hd := false) (mk_poss (by decide) (by decide) (fun e => by cases e)) hfree
              rw [hgi2] at a2
              refine (make_s 1 false _ _ ⟨by decide, by decide⟩ hX a2 a1).mono ?_
              rintro e w' ⟨h1, h2, h3⟩
              rw [a3, ← hH2] at h2
              exact ⟨h1, h2, h3⟩
            have L1 : Hid (∀ X, HSt w X b p tt H2 → Calls Try.prog 30 #[.pointer (some ⟨b, 0, none⟩)] X fun e w' => e = .returned (.int .i64 m) ∧ Below X.heap.size X w') := fun X hX => left_s m hX (by
              rw [hH2]
              have := sel_put_len (f := H.t.s) (v := 0) (u := 1) hin
              rw [if_pos hiy0, if_neg (by decide)] at this
              have e2 : (sel H.t.s 0 H.t.n).length = l := hfl
              show (sel (put H.t.s i 1) 0 H.t.n).length = m
              omega)
            have FR : Hid (∀ X, HSt w X b p tt H2 → Calls Try.prog 16 #[.pointer (some ⟨b, 0, none⟩), .agg #[.int .i64 i, .int .u32 gi]] X fun e w' => e = .returned (.int .i64 0) ∧ HSt w w' b p tt (H2.freed ((i : Int), (gi : Int))) ∧ Kept (HFoot b p tt) X w') := fun X hX =>
              free_s i gi 0 hX (by rw [hH2]; exact Hp.chk_is (H := ⟨H.t.took i, putO H.o i (mk 1 false)⟩) hin (put_same _ _ _) (by rw [← hgi2]; rfl))
            have L2 : Hid (∀ X, HSt w X b p tt (H2.freed ((i : Int), (gi : Int))) → Calls Try.prog 30 #[.pointer (some ⟨b, 0, none⟩)] X fun e w' => e = .returned (.int .i64 l) ∧ Below X.heap.size X w') := fun X hX => left_s l hX (by
              rw [hH2]
              have hc2 : (H.t.took i).chk i gi = 0 := by rw [← hgi2]; exact Tb.chk_held (T := H.t.took i) hin (put_same _ _ _)
              show ((H.t.took i).given i gi).free.length = l
              unfold Tb.given
              rw [if_pos hc2, Int.toNat_natCast]
              unfold Tb.gave
              rw [if_neg (show (H.t.took i).g i ≠ 4294967295 by show H.t.g i ≠ _; omega)]
              have h3 := sel_put_len (f := H.t.s) (v := 0) (u := 1) hin
              rw [if_pos hiy0, if_neg (by decide)] at h3
              have h4 := sel_put_len (f := put H.t.s i 1) (v := 0) (u := 0) hin
              rw [put_same, if_neg (by decide), if_pos rfl] at h4
              have e2 : (sel H.t.s 0 H.t.n).length = l := hfl
              show (sel (put (put H.t.s i 1) i 0) 0 H.t.n).length = l
              omega)
            have hwl : IntKind.i64.wrap ((l : Int) - 1) = (m : Int) := by rw [IntKind.wrap_i64]; have := H.t.held_len BMo.out.ok.t; omega
            clear hfree hiy0 hin hgi hm hfl hH2 hgi2
            go_upto_region 19 with (first
              | (go_at_call 30; refine LF.out.mono ?_; rintro e w7 ⟨rfl, hb7⟩; have q7 : w7.cell? ⟨mb, 0, none⟩ = some (.pointer (some ⟨b, 0, none⟩)) := (SX.out.bm.below hb7).cell 0; have M7 := Lib.hid (SX.out.quiet hb7); clear hb7)
              | (go_at_call 14; refine (MK.out _ M7.out.st).mono ?_; rintro e w8 ⟨rfl, hS8, hk8⟩; have S8 := Lib.hid (And.intro hS8 (M7.out.bm.kept hk8 M7.out.fm)); clear hS8 hk8))
            obtain ⟨W, hW⟩ : ∃ W, w8.alloc (.cells #[.int .i64 (i : Nat), .int .u32 (gi : Nat)] 34) = W := ⟨_, rfl⟩
            have SW : Hid (HSt w W b p tt H2) := by rw [← hW]; exact S8.out.1.quiet (bel_new _ _)
            have KS : Hid (∀ X, Kept (HFoot b p tt) W X → Kept (HFoot b p tt) W X ∧ X.cell? ⟨mb, 0, none⟩ = some (.pointer (some ⟨b, 0, none⟩)) ∧ X.cell? ⟨w8.heap.size, 0, none⟩ = some (.int .i64 i) ∧ X.cell? ⟨w8.heap.size, 1, none⟩ = some (.int .u32 gi)) := fun X hk => by
              have hbm := S8.out.2.below (bel_new w8 (.cells #[.int .i64 (i : Nat), .int .u32 (gi : Nat)] 34)); rw [hW] at hbm
              have hbx : Bk W w8.heap.size 34 #[.int .i64 (i : Nat), .int .u32 (gi : Nat)] := by rw [← hW]; exact Bk.new w8 _ _
              have q1 := hbm.kept hk (SW.out.f.box hbm (by decide) (by decide) (by decide))
              have q2 := hbx.kept hk (SW.out.f.box hbx (by decide) (by decide) (by decide))
              exact ⟨hk, q1.cell 0, q2.cell 0, q2.cell 1⟩
            rw [hW]
            clear hW q7 q0 S8
            generalize w8.heap.size = B8 at *
            go_region_held3 (fun X => Kept (HFoot b p tt) W X ∧ X.cell? ⟨mb, 0, none⟩ = some (.pointer (some ⟨b, 0, none⟩)) ∧ X.cell? ⟨B8, 0, none⟩ = some (.int .i64 i) ∧ X.cell? ⟨B8, 1, none⟩ = some (.int .u32 gi)) (first | (with_reducible assumption) | exact KS.out _ (Kept.refl _ W).drew) (first
              | (go_at_call 30; refine (L2.out _ S10.out).mono ?_; rintro e w11 ⟨rfl, hb11⟩; have S11 := Lib.hid (S10.out.quiet hb11); have HK11 := Lib.hid (HK10.out.trans (Kept.of_below hb11)); have hz11 := KS.out _ HK11.out; clear hb11)
              | (go_at_call 30; refine (L1.out _ (SW.out.quiet (bel_dr W))).mono ?_; rintro e w9 ⟨rfl, hb9⟩; have S9 := Lib.hid ((SW.out.quiet (bel_dr W)).quiet hb9); have HK9 := Lib.hid ((Kept.refl (HFoot b p tt) W).drew.trans (Kept.of_below hb9)); have hz9 := KS.out _ HK9.out; clear hb9)
              | (go_at_call 16; refine (FR.out _ S9.out).mono ?_; rintro e w10 ⟨rfl, hs10, hk10⟩; have S10 := Lib.hid hs10; have HK10 := Lib.hid (HK9.out.trans hk10); have hz10 := KS.out _ HK10.out; clear hs10 hk10)
              | (go_at_call 11; refine (works_ok _).mono ?_; rintro e w12 ⟨rfl, hb12⟩; have HB12 := Lib.hid (bel3 S11.out.bel hb12); have hz12 := KS.out _ (HK11.out.trans (Kept.of_below hb12)); clear hb12))
            all_goals
              go_wp2
              go_ret
              exact ⟨rfl, HB12.out⟩
end Go.Proofs.Ytfnhkapbfgofkaa
