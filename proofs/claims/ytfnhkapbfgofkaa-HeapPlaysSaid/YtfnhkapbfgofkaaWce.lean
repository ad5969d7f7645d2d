/- The contract of the document's Make. -/
import Derived.Test.YtfnhkapbfgofkaaWcd
import Derived.Test.YtfnhkapbfgofkaaWx
namespace Go.Proofs.Ytfnhkapbfgofkaa
open Go.RowKit

theorem turned_make {H : Hp} {i : Nat} {o : Ob} (ok : H.Ok) (_ : H.t.s i = 0) (_ : i < H.t.n) (ho : Poss o) : Turned H ⟨H.t.took i, putO H.o i o⟩ i 1 (H.t.g i) o := by
  have es : ∀ q, (H.t.took i).s q = if q = i then 1 else H.t.s q := fun q => rfl
  refine ⟨ok.took ho, rfl, fun j hj => ?_, ?_⟩
  · refine ⟨by show (H.t.took i).s j = _; rw [es, if_neg hj], rfl, ?_⟩
    unfold Hp.ox
    show (if (H.t.took i).s j = 1 then putO H.o i o j else ob0) = _
    rw [es, if_neg hj, putO_other hj]
  · unfold Hp.ox
    show ecl ((H.t.took i).s i) (H.t.g i) (if (H.t.took i).s i = 1 then putO H.o i o i else ob0) = _
    rw [es, if_pos rfl, if_pos rfl, putO_same]
/-- New's contract of the document's, its cells written out. -/
theorem dnew_at (n : Int) (hn : -9223372036854775808 ≤ n ∧ n ≤ 9223372036854775807) (h : Bool) (o : Ob) (E : Int) (hq : newR n h = (o, E)) (w : World) : Calls Try.prog 39 #[.int .i64 n, .bool h] w fun e w' => e = .returned (.tuple #[.agg #[.int .i64 o.n, .int .i64 o.a.1, .int .u32 o.a.2, .int .i64 o.b.1, .int .u32 o.b.2, .int .i64 o.c.1, .int .u32 o.c.2, .int .i64 o.d.1, .int .u32 o.d.2, .bool o.h], .int .i64 E]) ∧ Below w.heap.size w w' := by
  have := dnew_any n hn h w
  rw [hq] at this
  exact this
set_option maxHeartbeats 4000000 in
theorem dh_make (c d : Nat) (H : Hp) (n : Int) (hd : Bool) (q : Rf) (E : Int) (hn : I64 n) (hq : H.mR n hd = q) (hE : H.mE n hd = E) (w : World) (h : EW w c d H) : Calls Try.prog 15 #[.pointer (some ⟨c, 0, none⟩), .int .i64 n, .bool hd] w fun e w' => e = .returned (.tuple #[.agg #[.int .i64 q.1, .int .u32 q.2], .int .i64 E]) ∧ Hid (EStep c d (H.made n hd) w w') := by
  obtain ⟨W, hW⟩ : ∃ W, w.alloc (.cells #[.int .i64 0, .int .u32 0] 34) = W := ⟨_, rfl⟩
  have HB : Hid (Below w.heap.size w W) := by rw [← hW]; exact bel_new _ _
  have BR : Hid (Bk W w.heap.size 34 (rfc (0, 0))) := by rw [← hW]; exact Bk.new _ _ _
  have HD : Hid (EW W c d H) := h.below HB.out
  have H0 := Lib.hid h
  have HV := Lib.hid (dh_valid c d H W HD.out)
  have HW := Lib.hid hW
  clear hW
  obtain ⟨G, hG⟩ : ∃ G, H.made n hd = G := ⟨_, rfl⟩
  rw [hG]
  have HG := Lib.hid hG
  clear hG
  by_cases hp : Poss (mk n hd)
  · obtain ⟨o, ho⟩ : ∃ o, mk n hd = o := ⟨_, rfl⟩
    have NW := Lib.hid (fun X => dnew_at n hn hd o 0 (by rw [← ho]; unfold newR; rw [if_pos hp]) X)
    have HP := Lib.hid (And.intro hp ho)
    have HC := Lib.hid (And.intro hq hE)
    obtain ⟨N, hN⟩ : ∃ N, H.t.n = N := ⟨_, rfl⟩
    have hN256 : N ≤ 256 := by rw [← hN]; exact h.ok.t.hi
    have HN := Lib.hid hN
    clear h hp ho hq hE hN
    go_enter Try.func15, Try.ntmps15
    go_upto_region 1 with fail
    rw [HW.out]
    go_upto_region 4 with (first
      | (go_at_call 38; refine HV.out.mono ?_; rintro e w2 ⟨rfl, rfl⟩)
      | (go_at_call 39; refine (NW.out _).mono ?_; rintro e w2 ⟨rfl, hb2⟩; have HB2 := Lib.hid hb2; clear hb2))
    obtain ⟨W3, hW3⟩ : ∃ W3, w2.alloc (.cells (obc o) 86) = W3 := ⟨_, rfl⟩
    have B3 : Hid (Below W.heap.size W W3) := by rw [← hW3]; exact HB2.out.alloc HB2.out.size _
    have X8 : Hid (Bk W3 w2.heap.size 86 (obc o)) := by rw [← hW3]; exact Bk.new _ _ _
    unfold obc at hW3
    rw [hW3]
    clear hW3
    generalize w2.heap.size = B8 at *
    have D3 := Lib.hid (HD.out.below B3.out)
    have R3 := Lib.hid (BR.out.below B3.out)
    go_wp2_with fail
    go_loopw [10] (fun v wr => ∃ i : Nat, i ≤ N ∧ v = .int .i64 i ∧ W3 = wr ∧ Hid (∀ j, j < i → H.t.s j ≠ 0)) (fun v _ => N - (intOf v).toNat)
    case atStart => exact ⟨0, Nat.zero_le _, rfl, rfl, fun j hj => by omega⟩
    case round =>
      obtain ⟨i, hi, rfl, rfl, HY⟩ := hrel
      obtain ⟨cap, c0, c1, hc1, hc2⟩ := D3.out.c0
      rw [HN.out] at c1 hc1
      clear c0
      have hwi : IntKind.i64.wrap ((i : Int) + 1) = (i : Int) + 1 := by rw [IntKind.wrap_i64]; omega
      by_cases hlt : i < N
      · obtain ⟨i0, i1, i2⟩ := D3.out.ci (i := i) (by rw [HN.out]; exact hlt)
        have hst : H.t.s i = 0 ∨ H.t.s i = 1 ∨ H.t.s i = 2 := by have := D3.out.ok.t.st i; omega
        rcases hst with e | e | e
        · rw [e] at i0 i1
          have j0 : W3.cell? ⟨d, i * 13, none⟩ = some (.bool false) := i0
          have j1 : W3.cell? ⟨d, i * 13 + 1, none⟩ = some (.bool false) := i1
          obtain ⟨r, hr⟩ := free_head HY.out e (by rw [HN.out]; exact hlt)
          obtain ⟨hp, ho⟩ := HP.out
          obtain ⟨a1, a2, a3⟩ := Hp.make_yes hp hr
          rw [HC.out.1] at a2
          rw [HC.out.2] at a1
          rw [ho] at hp a3
          have T := turned_make D3.out.ok e (by rw [HN.out]; exact hlt) hp
          rw [← a3, HG.out] at T
          have hin := HN.out
          obtain ⟨g, hg⟩ : ∃ g, H.t.g i = g := ⟨_, rfl⟩
          rw [hg] at i2 T a2
          have SE : Hid (∀ X, Below W3.heap.size W3 X → Calls Try.prog 40 #[.pointer (some ⟨c, 0, none⟩), .int .i64 i, .agg #[.bool true, .bool false, .int .u32 g, .int .i64 o.n, .int .i64 o.a.1, .int .u32 o.a.2, .int .i64 o.b.1, .int .u32 o.b.2, .int .i64 o.c.1, .int .u32 o.c.2, .int .i64 o.d.1, .int .u32 o.d.2, .bool o.h]] X fun e w' => e = .returned (.tuple #[]) ∧ Hid (ESet c G X w')) := fun X hX =>
            dh_set c d i 1 g o H _ X (D3.out.below hX) (by rw [hin]; exact hlt) T
          obtain ⟨o0, o1, o2, o3, o4, o5, o6, o7, o8, o9⟩ := X8.out.ob
          clear i0 i1 e hr hp ho a3 T hin hg HC
          subst a1 a2
          have KR : Hid (∀ X, Kept (· = c) W3 X → Bk X w.heap.size 34 (rfc (0, 0))) := fun X hk => R3.out.kept hk (by
            have := H0.out.ct
            omega)
          have CLT : Hid (c < w.heap.size) := H0.out.ct
          have DLT : Hid (d < w.heap.size) := H0.out.dt
          go_wp2_with (go_at_call 40; refine (SE.out _ (Below.refl _ _)).mono ?_; rintro e w4 ⟨rfl, hs4⟩; obtain ⟨d', hd', hE', hk'⟩ := hs4.out; have HS := Lib.hid (And.intro hd' (And.intro hE' hk')); obtain ⟨a0, a1⟩ := (KR.out _ hk').rf; obtain ⟨f0, f1⟩ := (KR.out _ hk').rfz; have hlt4 := (KR.out _ hk').lt; clear hs4 hd' hE' hk')
          refine bodyPost_ret (v := .tuple #[.agg #[.int .i64 (i : Nat), .int .u32 (g : Nat)], .int .i64 0]) ?_ rfl ⟨?_, ?_⟩
          · rw [results_cell_tmp rfl]
            go_simp
          · rfl
          · obtain ⟨hd', hE', hk'⟩ := HS.out
            have kb : Kept (· = w.heap.size) w4 ((w4.setCell ⟨w.heap.size, 0, none⟩ (.int .i64 (i : Nat))).setCell ⟨w.heap.size, 1, none⟩ (.int .u32 (g : Nat))) := ((Kept.refl _ w4).put1 0 _).put1 1 _
            have hsz := (dh_tr HB.out B3.out).size
            refine ⟨d', .inr (Nat.le_trans hsz hd'), hE'.kept kb (fun e => by have := CLT.out; omega) (fun e => by have := B3.out.size; have := (BR.out).lt; omega), ?_⟩
            refine ((Kept.of_below (dh_tr HB.out B3.out)).trans ((hk'.mono (T := fun g => g = c ∨ g = w.heap.size) fun _ _ e => .inl e).trans (kb.mono fun _ _ e => .inr e))).mono fun g hg e => ?_
            rcases e with e | e
            · exact e
            · omega
        · rw [e] at i0 i1
          have j0 : W3.cell? ⟨d, i * 13, none⟩ = some (.bool true) := i0
          have j1 : W3.cell? ⟨d, i * 13 + 1, none⟩ = some (.bool false) := i1
          have HE := Lib.hid e
          clear i0 i1 e
          go_wp2
          go_roundw
          case rel => exact ⟨i + 1, by omega, by go_num, trivial, fun j hj => by
            by_cases c : j < i
            · exact HY.out j c
            · obtain rfl : j = i := by omega
              rw [HE.out]; decide⟩
          case measure => simp [intOf]; omega
        · rw [e] at i0 i1
          have j0 : W3.cell? ⟨d, i * 13, none⟩ = some (.bool false) := i0
          have j1 : W3.cell? ⟨d, i * 13 + 1, none⟩ = some (.bool true) := i1
          have HE := Lib.hid e
          clear i0 i1 e
          go_wp2
          go_roundw
          case rel => exact ⟨i + 1, by omega, by go_num, trivial, fun j hj => by
            by_cases c : j < i
            · exact HY.out j c
            · obtain rfl : j = i := by omega
              rw [HE.out]; decide⟩
          case measure => simp [intOf]; omega
      · obtain rfl : i = N := by omega
        obtain ⟨a1, a2, a3⟩ := Hp.make_full HP.out.1 (free_none (T := H.t) fun j hj => HY.out j (by rw [← HN.out]; exact hj))
        rw [HC.out.1] at a2
        rw [HC.out.2] at a1
        rw [HG.out] at a3
        subst a1 a2 a3
        obtain ⟨a0, a1⟩ := R3.out.rf
        obtain ⟨f0, f1⟩ := R3.out.rfz
        have hlt4 := R3.out.lt
        clear HC
        go_wp2
        refine bodyPost_ret (v := .tuple #[.agg #[.int .i64 0, .int .u32 0], .int .i64 4]) ?_ rfl ⟨rfl, ?_⟩
        · rw [results_cell_tmp rfl]
          go_simp
        · exact estep_no H0.out (bel_two (dh_tr HB.out B3.out) (Nat.le_refl _) _ _)
  · obtain ⟨a1, a2, a3⟩ := Hp.make_bad (H := H) hp
    rw [hq] at a2
    rw [hE] at a1
    rw [HG.out] at a3
    subst a1 a2 a3
    have NW := Lib.hid (fun X => dnew_at n hn hd ob0 2 (by unfold newR; rw [if_neg hp]) X)
    clear h hp hq hE
    go_enter Try.func15, Try.ntmps15
    go_upto_region 1 with fail
    rw [HW.out]
    go_upto_region 4 with (first
      | (go_at_call 38; refine HV.out.mono ?_; rintro e w2 ⟨rfl, rfl⟩)
      | (go_at_call 39; refine (NW.out _).mono ?_; rintro e w2 ⟨rfl, hb2⟩; have HB2 := Lib.hid hb2; clear hb2))
    obtain ⟨W3, hW3⟩ : ∃ W3, w2.alloc (.cells (obc ob0) 86) = W3 := ⟨_, rfl⟩
    have B3 : Hid (Below W.heap.size W W3) := by rw [← hW3]; exact HB2.out.alloc HB2.out.size _
    unfold obc ob0 at hW3
    try simp only [ob0]
    rw [hW3]
    clear hW3
    generalize w2.heap.size = B8 at *
    have R3 := Lib.hid (BR.out.below B3.out)
    obtain ⟨a0, a1⟩ := R3.out.rf
    obtain ⟨f0, f1⟩ := R3.out.rfz
    have hlt4 := R3.out.lt
    go_wp2
    refine bodyPost_ret (v := .tuple #[.agg #[.int .i64 0, .int .u32 0], .int .i64 2]) ?_ rfl ⟨rfl, ?_⟩
    · rw [results_cell_tmp rfl]
      go_simp
    · exact estep_no H0.out (bel_two (dh_tr HB.out B3.out) (Nat.le_refl _) _ _)
end Go.Proofs.Ytfnhkapbfgofkaa
