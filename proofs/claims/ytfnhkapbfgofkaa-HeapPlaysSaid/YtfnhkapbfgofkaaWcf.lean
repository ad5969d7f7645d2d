/- The contract of the document's Store. -/
import Derived.Test.YtfnhkapbfgofkaaWce
import Derived.Deep.CutBlock
namespace Go.Proofs.Ytfnhkapbfgofkaa
open Go.RowKit

theorem turned_store {H : Hp} {i : Nat} {o : Ob} (ok : H.Ok) (hs : H.t.s i = 1) (ho : Poss o) : Turned H ⟨H.t, putO H.o i o⟩ i 1 (H.t.g i) o := by
  refine ⟨ok.repl ho, rfl, fun j hj => ?_, ?_⟩
  · refine ⟨rfl, rfl, ?_⟩
    unfold Hp.ox
    show (if H.t.s j = 1 then putO H.o i o j else ob0) = _
    rw [putO_other hj]
  · unfold Hp.ox
    show ecl (H.t.s i) (H.t.g i) (if H.t.s i = 1 then putO H.o i o i else ob0) = _
    rw [hs, if_pos rfl, putO_same]
theorem three_boxes (w : World) (a b c : Array Value) (s t u : TypeId) {w2 : World} (h : ((w.alloc (.cells a s)).alloc (.cells b t)).alloc (.cells c u) = w2) :
    Bk w2 w.heap.size s a ∧ Bk w2 (w.heap.size + 1) t b ∧ Bk w2 (w.heap.size + 1 + 1) u c ∧ Below w.heap.size w w2 := by
  subst h
  have h1 := Bk.new w s a
  have h2 := Bk.new (w.alloc (.cells a s)) t b
  have h3 := Bk.new ((w.alloc (.cells a s)).alloc (.cells b t)) u c
  rw [World.size_alloc] at h2
  rw [World.size_alloc, World.size_alloc] at h3
  have k1 := bel_new (w.alloc (.cells a s)) (.cells b t)
  have k2 := bel_new ((w.alloc (.cells a s)).alloc (.cells b t)) (.cells c u)
  exact ⟨(h1.below k1).below k2, h2.below k2, h3, dh_tr (dh_tr (bel_new w _) k1) k2⟩
/-- Set's contract of the document's, its cells written out. -/
theorem dset_at (o : Ob) (hp : Poss o) (j : Nat) (hj : (j : Int) < o.n) (r : Rf) (hok : RfOk r) (x : Ob) (hx : o.upd r j = x) (w : World) : Calls Try.prog 51 #[.agg #[.int .i64 o.n, .int .i64 o.a.1, .int .u32 o.a.2, .int .i64 o.b.1, .int .u32 o.b.2, .int .i64 o.c.1, .int .u32 o.c.2, .int .i64 o.d.1, .int .u32 o.d.2, .bool o.h], .int .i64 (j : Nat), .agg #[.int .i64 r.1, .int .u32 r.2]] w fun e w' => ∃ q : Rf, e = .returned (.tuple #[.agg #[.int .i64 x.n, .int .i64 x.a.1, .int .u32 x.a.2, .int .i64 x.b.1, .int .u32 x.b.2, .int .i64 x.c.1, .int .u32 x.c.2, .int .i64 x.d.1, .int .u32 x.d.2, .bool x.h], .agg #[.int .i64 q.1, .int .u32 q.2], .int .i64 0]) ∧ Below w.heap.size w w' := by
  have h4 := hp.n4
  have := dset_any o hp.rg (j : Int) ⟨by omega, by omega⟩ r hok.rr w
  refine this.mono ?_
  rintro e w' ⟨rfl, hb⟩
  have es : setR o (j : Int) r = (o.upd r j, o.fld j, 0) := by
    unfold setR
    rw [if_pos ⟨hp, hok⟩, if_pos ⟨by omega, hj⟩, Int.toNat_natCast]
  rw [es, hx]
  exact ⟨o.fld j, rfl, hb⟩
set_option maxHeartbeats 8000000 in
theorem dh_store (c d : Nat) (H : Hp) (s g i vs vg : Int) (q : Rf) (E : Int) (hi : I64 i) (hq : H.sR (s, g) i (vs, vg) = q) (hE : H.sE (s, g) i (vs, vg) = E) (w : World) (h : EW w c d H) : Calls Try.prog 21 #[.pointer (some ⟨c, 0, none⟩), .agg #[.int .i64 s, .int .u32 g], .int .i64 i, .agg #[.int .i64 vs, .int .u32 vg]] w fun e w' => e = .returned (.tuple #[.agg #[.int .i64 q.1, .int .u32 q.2], .int .i64 E]) ∧ Hid (EStep c d (H.stored (s, g) i (vs, vg)) w w') := by
  obtain ⟨W, hW⟩ : ∃ W, ((w.alloc (.cells #[.int .i64 s, .int .u32 g] 34)).alloc (.cells #[.int .i64 vs, .int .u32 vg] 34)).alloc (.cells #[.int .i64 0, .int .u32 0] 34) = W := ⟨_, rfl⟩
  obtain ⟨k1, k2, k3, k4⟩ := three_boxes w _ _ _ _ _ _ hW
  have HB := Lib.hid k4
  have B5 := Lib.hid k1
  have B7 := Lib.hid k2
  have B8 : Hid (Bk W (w.heap.size + 1 + 1) 34 (rfc (0, 0))) := k3
  have H0 := Lib.hid h
  have HD : Hid (EW W c d H) := h.below k4
  obtain ⟨o, ho⟩ : ∃ o, H.obj (s, g) = o := ⟨_, rfl⟩
  obtain ⟨E0, hE0⟩ : ∃ E0, H.chk (s, g) = E0 := ⟨_, rfl⟩
  have OB := Lib.hid (dh_obj c d H s g o E0 ho hE0 W HD.out)
  obtain ⟨G, hG⟩ : ∃ G, H.stored (s, g) i (vs, vg) = G := ⟨_, rfl⟩
  rw [hG]
  have q0 : W.cell? ⟨w.heap.size, 0, none⟩ = some (.int .i64 s) := k1.cell 0
  have q1 : W.cell? ⟨w.heap.size, 1, none⟩ = some (.int .u32 g) := k1.cell 1
  have HW := Lib.hid hW
  have HC := Lib.hid (And.intro ho (And.intro hE0 (And.intro hq (And.intro hE hG))))
  clear h k1 k2 k3 k4 hW ho hE0 hq hE hG
  go_enter Try.func21, Try.ntmps21
  go_upto_region 1 with fail
  rw [HW.out]
  go_upto_region 2 with (go_at_call 46; refine OB.out.mono ?_; rintro e w2 ⟨rfl, hb2⟩; have HB2 := Lib.hid hb2; clear hb2)
  obtain ⟨W3, hW3⟩ : ∃ W3, w2.alloc (.cells (obc o) 86) = W3 := ⟨_, rfl⟩
  have B3 : Hid (Below W.heap.size W W3) := by rw [← hW3]; exact HB2.out.alloc HB2.out.size _
  have X10 : Hid (Bk W3 w2.heap.size 86 (obc o)) := by rw [← hW3]; exact Bk.new _ _ _
  unfold obc at hW3
  rw [hW3]
  clear hW3 q0 q1
  generalize w2.heap.size = B10 at *
  by_cases h0 : E0 = 0
  · subst h0
    obtain ⟨ho, hE0, hq, hE, hG⟩ := HC.out
    obtain ⟨k, e1, hin, his, e2, e3⟩ := Hp.chk_zero hE0
    simp only at e1 e2
    subst e1
    have hpo : Poss o := by rw [← ho]; exact HD.out.ok.obj_poss hE0
    have ea : H.at_ ((k : Int), g) = o := by rw [← ho]; unfold Hp.obj; rw [if_pos hE0]
    obtain ⟨⟨q1, E1⟩, hgt⟩ : ∃ z, getR o i = z := ⟨_, rfl⟩
    have GT := Lib.hid (fun X => dget_at o hpo.rg i hi q1 E1 hgt X)
    have FA := Lib.hid (And.intro hin (And.intro his (And.intro e2 (And.intro hpo (And.intro ea hgt)))))
    clear ho hE0 hq hE hG hin his e2 e3 hpo ea hgt
    obtain ⟨o0, o1, o2, o3, o4, o5, o6, o7, o8, o9⟩ := X10.out.ob
    go_upto_region 5 with (go_at_call 47; refine (GT.out _).mono ?_; rintro e w4 ⟨rfl, hb4⟩; have HB4 := Lib.hid hb4; clear hb4)
    obtain ⟨W5, hW5⟩ : ∃ W5, w4.alloc (.cells (rfc q1) 34) = W5 := ⟨_, rfl⟩
    have B5' : Hid (Below W3.heap.size W3 W5) := by rw [← hW5]; exact HB4.out.alloc HB4.out.size _
    have X12 : Hid (Bk W5 w4.heap.size 34 (rfc q1)) := by rw [← hW5]; exact Bk.new _ _ _
    unfold rfc at hW5
    rw [hW5]
    clear hW5 o0 o1 o2 o3 o4 o5 o6 o7 o8 o9
    generalize w4.heap.size = B12 at *
    have BW5 : Hid (Below W.heap.size W W5) := dh_tr B3.out B5'.out
    by_cases h1 : E1 = 0
    · subst h1
      obtain ⟨v0, v1⟩ : W5.cell? ⟨w.heap.size + 1, 0, none⟩ = some (.int .i64 vs) ∧ W5.cell? ⟨w.heap.size + 1, 1, none⟩ = some (.int .u32 vg) := ⟨(B7.out.below BW5.out).cell 0, (B7.out.below BW5.out).cell 1⟩
      obtain ⟨a0, a1⟩ := (B8.out.below BW5.out).rf
      obtain ⟨f0, f1⟩ := (B8.out.below BW5.out).rfz
      have hlt8 := (B8.out.below BW5.out).lt
      obtain ⟨nz, hnz⟩ : ∃ nz : Bool, nz = !(decide (vs = 0) && decide (vg = 0)) := ⟨_, rfl⟩
      have NZ := Lib.hid hnz
      clear hnz
      go_upto_region 7 with fail
      go_cut [40] from 38 to 40 (fun v40 wx => v40 = .bool nz ∧ W5 = wx)
      case first =>
        by_cases hs0 : vs = 0
        · subst hs0
          by_cases hg0 : vg = 0
          · subst hg0
            go_wp2_with fail
            go_meet
            exact ⟨by rw [NZ.out]; rfl, rfl⟩
          · go_wp2_with fail
            go_meet
            exact ⟨by rw [NZ.out]; simp [hg0], rfl⟩
        · go_wp2_with fail
          go_meet
          exact ⟨by rw [NZ.out]; simp [hs0], rfl⟩
      case rest =>
        obtain ⟨rfl, rfl⟩ := hcut
        go_upto_if 40 with fail
        go_cut [14] from 41 to 47 (fun _ wx => Hid (H.vE (vs, vg) = 0 ∧ Below W5.heap.size W5 wx))
        case first =>
          cases nz with
          | false =>
            go_wp2_with fail
            go_meet
            exact ⟨by
              have := NZ.out
              simp at this
              obtain ⟨rfl, rfl⟩ := this
              rfl, Below.refl _ _⟩
          | true =>
            have hvz : ¬ (vs, vg) = ((0 : Int), (0 : Int)) := fun e => by
              have := NZ.out
              obtain ⟨rfl, rfl⟩ := Prod.mk.inj e
              simp at this
            obtain ⟨E2, hE2⟩ : ∃ E2, H.chk (vs, vg) = E2 := ⟨_, rfl⟩
            have hvE : H.vE (vs, vg) = E2 := by unfold Hp.vE; rw [if_neg hvz]; exact hE2
            have VE := Lib.hid hvE
            have CK := Lib.hid (dh_chk c d H vs vg E2 hE2 W5 (HD.out.below BW5.out))
            clear hvz hE2 hvE
            by_cases h2 : E2 = 0
            · subst h2
              go_wp2_with (go_at_call 44; refine CK.out.mono ?_; rintro e w6 ⟨rfl, hb6⟩; have HB6 := Lib.hid hb6; clear hb6)
              go_meet
              exact ⟨VE.out, HB6.out⟩
            · have h2b : (E2 == 0) = false := by simpa using h2
              go_wp2_with (go_at_call 44; refine CK.out.mono ?_; rintro e w6 ⟨rfl, hb6⟩; have HB6 := Lib.hid hb6; obtain ⟨b0, b1⟩ := (B8.out.below (dh_tr BW5.out hb6)).rf; obtain ⟨g0, g1⟩ := (B8.out.below (dh_tr BW5.out hb6)).rfz; have hlt9 := (B8.out.below (dh_tr BW5.out hb6)).lt; clear hb6)
              obtain ⟨ho, hE0, hq, hE, hG⟩ := HC.out
              obtain ⟨hin, his, e2, hpo, ea, hgt⟩ := FA.out
              have sE : H.sE ((k : Int), g) i (vs, vg) = E2 := by
                unfold Hp.sE
                rw [if_pos hE0, ea, hgt, if_pos rfl]
                exact VE.out
              obtain ⟨s1, s2⟩ := Hp.store_no sE h2
              rw [hq] at s1
              rw [hE] at sE
              rw [hG] at s2
              subst s1 sE s2
              refine bodyPost_ret (v := .tuple #[.agg #[.int .i64 0, .int .u32 0], .int .i64 E]) ?_ rfl ⟨rfl, ?_⟩
              · rw [results_cell_tmp rfl]
                go_simp
              · exact estep_no H0.out (bel_two (dh_tr HB.out (dh_tr BW5.out HB6.out)) (by omega) _ _)
        case rest =>
          obtain ⟨hvE, hb⟩ := hcut.out
          obtain ⟨wd, hwd⟩ : ∃ wd, wd = wc := ⟨_, rfl⟩
          subst hwd
          obtain ⟨ho, hE0, hq, hE, hG⟩ := HC.out
          obtain ⟨hin, his, e2, hpo, ea, hgt⟩ := FA.out
          obtain ⟨_, hi0, hin2, hgt2⟩ := get_zero (o := o) (i := i) (by rw [hgt])
          obtain ⟨j, rfl⟩ : ∃ j : Nat, i = j := ⟨i.toNat, by omega⟩
          rw [Int.toNat_natCast] at hgt2
          have hq1 : q1 = o.fld j := by rw [hgt] at hgt2; exact congrArg Prod.fst hgt2
          have hok := HD.out.ok.v_ok hvE
          have sE : H.sE ((k : Int), g) (j : Int) (vs, vg) = 0 := by
            unfold Hp.sE
            rw [if_pos hE0, ea, hgt, if_pos rfl]
            exact hvE
          have sR : H.sR ((k : Int), g) (j : Int) (vs, vg) = q1 := by
            unfold Hp.sR
            rw [if_pos sE, ea, hgt]
          have sG : H.stored ((k : Int), g) (j : Int) (vs, vg) = ⟨H.t, putO H.o k (o.upd (vs, vg) j)⟩ := by
            unfold Hp.stored
            rw [if_pos sE, ea]; simp
          rw [hE] at sE
          rw [hq] at sR
          rw [hG] at sG
          obtain ⟨x, hx⟩ : ∃ x, o.upd (vs, vg) j = x := ⟨_, rfl⟩
          rw [hx] at sG
          have hpx : Poss x := by rw [← hx]; exact hpo.upd hok hin2
          have T := turned_store (H := H) HD.out.ok his hpx
          rw [← sG] at T
          have ST := Lib.hid (fun X => dset_at o hpo j hin2 (vs, vg) hok x hx X)
          have SE : Hid (∀ X, Below W.heap.size W X → Calls Try.prog 40 #[.pointer (some ⟨c, 0, none⟩), .int .i64 k, .agg #[.bool true, .bool false, .int .u32 g, .int .i64 x.n, .int .i64 x.a.1, .int .u32 x.a.2, .int .i64 x.b.1, .int .u32 x.b.2, .int .i64 x.c.1, .int .u32 x.c.2, .int .i64 x.d.1, .int .u32 x.d.2, .bool x.h]] X fun e w' => e = .returned (.tuple #[]) ∧ Hid (ESet c G X w')) := fun X hX => by
            have := dh_set c d k 1 (H.t.g k) x H G X (HD.out.below hX) hin T
            rw [← e2] at this
            exact this
          have BD : Hid (Below W.heap.size W wd) := dh_tr BW5.out hb
          have C10 := Lib.hid ((X10.out.below B5'.out).below hb)
          have C12 := Lib.hid (X12.out.below hb)
          obtain ⟨o0, o1, o2, o3, o4, o5, o6, o7, o8, o9⟩ := C10.out.ob
          obtain ⟨v0, v1⟩ : wd.cell? ⟨w.heap.size + 1, 0, none⟩ = some (.int .i64 vs) ∧ wd.cell? ⟨w.heap.size + 1, 1, none⟩ = some (.int .u32 vg) := ⟨(B7.out.below BD.out).cell 0, (B7.out.below BD.out).cell 1⟩
          subst sE sR
          clear hvE hb ho hE0 hq hE hG hin his e2 hpo ea hgt hi0 hin2 hgt2 hq1 hok sG hx hpx T a0 a1 f0 f1 hlt8
          go_upto_region 12 with (go_at_call 51; refine (ST.out _).mono ?_; rintro e w6 ⟨q6, rfl, hb6⟩; have HB6 := Lib.hid hb6; clear hb6)
          obtain ⟨W8, hW8⟩ : ∃ W8, (w6.alloc (.cells (obc x) 86)).alloc (.cells #[.int .i64 q6.1, .int .u32 q6.2] 34) = W8 := ⟨_, rfl⟩
          obtain ⟨m1, m2, m3, m4⟩ := two_boxes w6 _ _ _ _ hW8
          have BW8 : Hid (Below W.heap.size W W8) := dh_tr BD.out (dh_tr HB6.out m4)
          have C12b := Lib.hid ((C12.out.below HB6.out).below m4)
          have X15 := Lib.hid m1
          unfold obc at hW8
          rw [hW8]
          clear hW8 m1 m2 m3 m4 o0 o1 o2 o3 o4 o5 o6 o7 o8 o9 v0 v1
          generalize w6.heap.size = B15 at *
          obtain ⟨o0, o1, o2, o3, o4, o5, o6, o7, o8, o9⟩ := X15.out.ob
          obtain ⟨r0, r1⟩ : W8.cell? ⟨w.heap.size, 0, none⟩ = some (.int .i64 (k : Nat)) ∧ W8.cell? ⟨w.heap.size, 1, none⟩ = some (.int .u32 g) := ⟨(B5.out.below BW8.out).cell 0, (B5.out.below BW8.out).cell 1⟩
          have CLT : Hid (c < w.heap.size ∧ d < w.heap.size ∧ B12 < W8.heap.size ∧ c ≠ B12) := ⟨H0.out.ct, H0.out.dt, C12b.out.lt, fun e => by
            obtain ⟨cap, cur, h1, _⟩ := (HD.out.below BW8.out).at_
            rw [e] at h1
            exact absurd (h1.uniq C12b.out).1 (by decide)⟩
          have K8 := Lib.hid (B8.out.below BW8.out)
          go_upto_region 13 with (go_at_call 40; refine (SE.out _ BW8.out).mono ?_; rintro e w9 ⟨rfl, hs9⟩)
          obtain ⟨d', hd', hE', hk'⟩ := hs9.out
          have n12 := C12b.out.kept hk' (fun e => CLT.out.2.2.2 e.symm)
          have n8 := K8.out.kept hk' (fun e => by have := CLT.out.1; omega)
          obtain ⟨y0, y1⟩ := n12.rf
          obtain ⟨a0, a1⟩ := n8.rf
          obtain ⟨f0, f1⟩ := n8.rfz
          have hlt8 := n8.lt
          have HS := Lib.hid (And.intro hd' (And.intro hE' hk'))
          clear hs9 hd' hE' hk' n12 n8 o0 o1 o2 o3 o4 o5 o6 o7 o8 o9 r0 r1
          go_wp2
          refine bodyPost_ret (v := .tuple #[.agg #[.int .i64 q.1, .int .u32 q.2], .int .i64 0]) ?_ rfl ⟨rfl, ?_⟩
          · rw [results_cell_tmp rfl]
            go_simp
          · obtain ⟨hd', hE', hk'⟩ := HS.out
            have kb : Kept (· = w.heap.size + 1 + 1) w9 ((w9.setCell ⟨w.heap.size + 1 + 1, 0, none⟩ (.int .i64 q.1)).setCell ⟨w.heap.size + 1 + 1, 1, none⟩ (.int .u32 q.2)) := ((Kept.refl _ w9).put1 0 _).put1 1 _
            have hsz := (dh_tr HB.out BW8.out).size
            have h8 := K8.out.lt
            obtain ⟨hc1, hc2, _⟩ := CLT.out
            refine ⟨d', .inr (Nat.le_trans hsz hd'), hE'.kept kb (fun e => by omega) (fun e => by omega), ?_⟩
            refine ((Kept.of_below (dh_tr HB.out BW8.out)).trans ((hk'.mono (T := fun g => g = c ∨ g = w.heap.size + 1 + 1) fun _ _ e => .inl e).trans (kb.mono fun _ _ e => .inr e))).mono fun g hg e => ?_
            rcases e with e | e
            · exact e
            · omega
    · have h1b : (E1 == 0) = false := by simpa using h1
      obtain ⟨ho, hE0, hq, hE, hG⟩ := HC.out
      obtain ⟨hin, his, e2, hpo, ea, hgt⟩ := FA.out
      have sE : H.sE ((k : Int), g) i (vs, vg) = E1 := by
        unfold Hp.sE
        rw [if_pos hE0, ea, hgt, if_neg h1]
      obtain ⟨s1, s2⟩ := Hp.store_no sE h1
      rw [hq] at s1
      rw [hE] at sE
      rw [hG] at s2
      subst s1 sE s2
      obtain ⟨a0, a1⟩ := (B8.out.below BW5.out).rf
      obtain ⟨f0, f1⟩ := (B8.out.below BW5.out).rfz
      have hlt8 := (B8.out.below BW5.out).lt
      clear ho hE0 hq hE hG hin his e2 hpo ea hgt h1
      go_wp2
      refine bodyPost_ret (v := .tuple #[.agg #[.int .i64 0, .int .u32 0], .int .i64 E]) ?_ rfl ⟨rfl, ?_⟩
      · rw [results_cell_tmp rfl]
        go_simp
      · exact estep_no H0.out (bel_two (dh_tr HB.out BW5.out) (by omega) _ _)
  · have h0b : (E0 == 0) = false := by simpa using h0
    obtain ⟨ho, hE0, hq, hE, hG⟩ := HC.out
    have sE : H.sE (s, g) i (vs, vg) = E0 := by
      rw [← hE0]; exact Hp.store_err (by rw [hE0]; exact h0)
    obtain ⟨s1, s2⟩ := Hp.store_no sE h0
    rw [hq] at s1
    rw [hE] at sE
    rw [hG] at s2
    subst s1 sE s2
    obtain ⟨a0, a1⟩ := (B8.out.below B3.out).rf
    obtain ⟨f0, f1⟩ := (B8.out.below B3.out).rfz
    have hlt8 := (B8.out.below B3.out).lt
    clear ho hE0 hq hE hG h0
    go_wp2
    refine bodyPost_ret (v := .tuple #[.agg #[.int .i64 0, .int .u32 0], .int .i64 E]) ?_ rfl ⟨rfl, ?_⟩
    · rw [results_cell_tmp rfl]
      go_simp
    · exact estep_no H0.out (bel_two (dh_tr HB.out B3.out) (by omega) _ _)
end Go.Proofs.Ytfnhkapbfgofkaa
