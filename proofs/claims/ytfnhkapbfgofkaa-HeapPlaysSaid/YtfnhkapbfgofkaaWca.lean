/- The document's heap: its words in memory; the contracts of its valid, Check, Has, Object. -/
import Derived.Test.YtfnhkapbfgofkaaWv
import Derived.Test.YtfnhkapbfgofkaaNh
import Derived.Deep.QuietTactic
import Derived.BigQuiet
namespace Go.Proofs.Ytfnhkapbfgofkaa
open Go.RowKit

theorem dh_tr {a b c : World} (h1 : Below a.heap.size a b) (h2 : Below b.heap.size b c) : Below a.heap.size a c := h1.trans (h2.mono h1.size)
/-- The object that the document keeps of a slot. -/
def Hp.ox (H : Hp) (i : Nat) : Ob := if H.t.s i = 1 then H.o i else ob0
/-- The thirteen cells of a slot. -/
def ecl (s g : Nat) (o : Ob) : List Value := [.bool (s == 1), .bool (s == 2), .int .u32 g, .int .i64 o.n, .int .i64 o.a.1, .int .u32 o.a.2, .int .i64 o.b.1, .int .u32 o.b.2, .int .i64 o.c.1, .int .u32 o.c.2, .int .i64 o.d.1, .int .u32 o.d.2, .bool o.h]
def Hp.ecls (H : Hp) (k : Nat) : List Value := (List.range k).flatMap fun i => ecl (H.t.s i) (H.t.g i) (H.ox i)
theorem ecls_len (H : Hp) : ∀ k, (H.ecls k).length = k * 13
  | 0 => rfl
  | k + 1 => by
    have := ecls_len H k
    unfold Hp.ecls at *
    rw [List.range_succ, List.flatMap_append, List.length_append, this]
    simp [ecl]; omega
theorem ecls_snoc (H : Hp) (k : Nat) : H.ecls (k + 1) = H.ecls k ++ ecl (H.t.s k) (H.t.g k) (H.ox k) := by
  unfold Hp.ecls
  rw [List.range_succ, List.flatMap_append]; simp
theorem ecls_at (H : Hp) : ∀ (k i : Nat), i < k → ∀ q, q < 13 → (H.ecls k)[i * 13 + q]? = (ecl (H.t.s i) (H.t.g i) (H.ox i))[q]?
  | 0, i, h, _, _ => by omega
  | k + 1, i, h, q, hq => by
    rw [ecls_snoc]
    by_cases e : i = k
    · subst e
      rw [List.getElem?_append_right (by rw [ecls_len]; omega), ecls_len, show i * 13 + q - i * 13 = q by omega]
    · rw [List.getElem?_append_left (by rw [ecls_len]; omega)]; exact ecls_at H k i (by omega) q hq
/-- The document's heap: its struct's block c, its slots' block d. -/
structure EW (w : World) (c d : Nat) (H : Hp) : Prop where
  ok : H.Ok
  at_ : ∃ (cap : Nat) (cur : Array Value), Bk w c 85 #[.bool true, .slice (some ⟨d, 0, none⟩) H.t.n cap] ∧ Bk w d 88 cur ∧ cur.size = cap * 13 ∧ H.t.n ≤ cap ∧ cap ≤ maxLen ∧ ∀ i, i < H.t.n → ∀ q, q < 13 → cur[i * 13 + q]? = (ecl (H.t.s i) (H.t.g i) (H.ox i))[q]?
section
variable {w w' : World} {c d : Nat} {H : Hp}
theorem EW.ct (h : EW w c d H) : c < w.heap.size := by obtain ⟨_, _, h1, _⟩ := h.at_; exact h1.lt
theorem EW.dt (h : EW w c d H) : d < w.heap.size := by obtain ⟨_, _, _, h1, _⟩ := h.at_; exact h1.lt
theorem EW.ne (h : EW w c d H) : c ≠ d := by
  obtain ⟨_, _, h1, h2, _⟩ := h.at_
  rintro rfl
  exact absurd (h1.uniq h2).1 (by decide)
theorem EW.same (h : EW w c d H) (e1 : w'.heap[c]? = w.heap[c]?) (e2 : w'.heap[d]? = w.heap[d]?) : EW w' c d H :=
  ⟨h.ok, by obtain ⟨cap, cur, h1, h2, hr⟩ := h.at_; exact ⟨cap, cur, h1.same e1, h2.same e2, hr⟩⟩
theorem EW.kept {S : Nat → Prop} (h : EW w c d H) (k : Kept S w w') (hc : ¬ S c) (hd : ¬ S d) : EW w' c d H := h.same (k.block c h.ct hc) (k.block d h.dt hd)
theorem EW.below (h : EW w c d H) (k : Below w.heap.size w w') : EW w' c d H := h.same (k.block c h.ct) (k.block d h.dt)
theorem EW.c0 (h : EW w c d H) : ∃ cap, w.cell? ⟨c, 0, none⟩ = some (.bool true) ∧ w.cell? ⟨c, 1, none⟩ = some (.slice (some ⟨d, 0, none⟩) H.t.n cap) ∧ H.t.n ≤ cap ∧ cap ≤ 9223372036854775807 := by
  obtain ⟨cap, _, h1, _, _, h2, h3, _⟩ := h.at_; exact ⟨cap, h1.cell 0, h1.cell 1, h2, by unfold maxLen at h3; omega⟩
theorem EW.ci (h : EW w c d H) {i : Nat} (hi : i < H.t.n) : w.cell? ⟨d, i * 13, none⟩ = some (.bool (H.t.s i == 1)) ∧ w.cell? ⟨d, i * 13 + 1, none⟩ = some (.bool (H.t.s i == 2)) ∧ w.cell? ⟨d, i * 13 + 2, none⟩ = some (.int .u32 (H.t.g i)) := by
  obtain ⟨_, cur, _, h1, _, _, _, h2⟩ := h.at_
  refine ⟨?_, ?_, ?_⟩ <;> rw [h1.cell]
  · exact h2 i hi 0 (by omega)
  · exact h2 i hi 1 (by omega)
  · exact h2 i hi 2 (by omega)
theorem EW.co (h : EW w c d H) {i : Nat} (hi : i < H.t.n) : Ten w d (i * 13 + 3) (H.ox i) := by
  obtain ⟨_, cur, _, h1, _, _, _, h2⟩ := h.at_
  refine ⟨?_, ?_, ?_, ?_, ?_, ?_, ?_, ?_, ?_, ?_⟩ <;> rw [h1.cell]
  · exact h2 i hi 3 (by omega)
  · exact h2 i hi 4 (by omega)
  · exact h2 i hi 5 (by omega)
  · exact h2 i hi 6 (by omega)
  · exact h2 i hi 7 (by omega)
  · exact h2 i hi 8 (by omega)
  · exact h2 i hi 9 (by omega)
  · exact h2 i hi 10 (by omega)
  · exact h2 i hi 11 (by omega)
  · exact h2 i hi 12 (by omega)
end
set_option maxHeartbeats 1000000 in
theorem dh_valid (c d : Nat) (H : Hp) (w : World) (h : EW w c d H) : Calls Try.prog 38 #[.pointer (some ⟨c, 0, none⟩)] w fun e w' => e = .returned (.bool true) ∧ w = w' := by
  obtain ⟨cap, c0, c1, h1, h2⟩ := h.c0
  clear h
  go_enter Try.func38, Try.ntmps38
  go_wp2
  go_ret
  exact ⟨rfl, rfl⟩
set_option maxHeartbeats 4000000 in
theorem dh_chk (c d : Nat) (H : Hp) (s g : Int) (E : Int) (hE : H.chk (s, g) = E) (w : World) (h : EW w c d H) : Calls Try.prog 44 #[.pointer (some ⟨c, 0, none⟩), .agg #[.int .i64 s, .int .u32 g]] w fun e w' => e = .returned (.int .i64 E) ∧ Below w.heap.size w w' := by
  have h1 := h.below (bel_new w (.cells #[.int .i64 s, .int .u32 g] 34))
  have HV := Lib.hid (dh_valid c d H _ h1)
  have HB := Lib.hid (bel_new w (.cells #[.int .i64 s, .int .u32 g] 34))
  have hbx := Bk.new w 34 #[.int .i64 s, .int .u32 g]
  obtain ⟨cap, c0, c1, hc1, hc2⟩ := h1.c0
  have hE' : H.t.chk s g = E := hE
  have CI : Hid (∀ i, i < H.t.n → (w.alloc (.cells #[.int .i64 s, .int .u32 g] 34)).cell? ⟨d, i * 13, none⟩ = some (.bool (H.t.s i == 1)) ∧ (w.alloc (.cells #[.int .i64 s, .int .u32 g] 34)).cell? ⟨d, i * 13 + 2, none⟩ = some (.int .u32 (H.t.g i))) := fun i hi => by
    obtain ⟨a1, _, a3⟩ := h1.ci hi
    exact ⟨a1, a3⟩
  obtain ⟨W, hW⟩ : ∃ W, w.alloc (.cells #[.int .i64 s, .int .u32 g] 34) = W := ⟨_, rfl⟩
  rw [hW] at HV HB hbx c0 c1 CI
  have q0 : W.cell? ⟨w.heap.size, 0, none⟩ = some (.int .i64 s) := hbx.cell 0
  have q1 : W.cell? ⟨w.heap.size, 1, none⟩ = some (.int .u32 g) := hbx.cell 1
  have hn256 := h.ok.t.hi
  obtain ⟨n, hn⟩ : ∃ n, H.t.n = n := ⟨_, rfl⟩
  rw [hn] at c1 hc1 hn256 CI
  have HW := Lib.hid hW
  have HN := Lib.hid hn
  clear h h1 hbx hW hn hE
  by_cases hs : s < 0
  · obtain rfl : E = 3 := by rw [← hE']; unfold Tb.chk; rw [if_pos (.inl hs)]
    clear hE'
    go_enter Try.func44, Try.ntmps44
    go_upto_region 1 with fail
    rw [HW.out]
    go_upto_region 3 with (go_at_call 38; refine HV.out.mono ?_; rintro e w2 ⟨rfl, rfl⟩)
    go_quiet (fail)
    go_wp2
    go_ret
    exact ⟨rfl, dh_tr HB.out (bel_drn W _)⟩
  obtain ⟨i, rfl⟩ : ∃ i : Nat, s = (i : Int) := ⟨s.toNat, by omega⟩
  have hs0 : ¬ (i : Int) < 0 := by omega
  by_cases hin : n ≤ i
  · obtain rfl : E = 3 := by rw [← hE']; unfold Tb.chk; rw [if_pos (.inr (by rw [HN.out]; omega))]
    have hin2 : (n : Int) ≤ (i : Int) := by omega
    clear hE' hs
    go_enter Try.func44, Try.ntmps44
    go_upto_region 1 with fail
    rw [HW.out]
    go_upto_region 3 with (go_at_call 38; refine HV.out.mono ?_; rintro e w2 ⟨rfl, rfl⟩)
    go_quiet (fail)
    go_wp2
    go_ret
    exact ⟨rfl, dh_tr HB.out (bel_drn W _)⟩
  have hin2 : ¬ (n : Int) ≤ (i : Int) := by omega
  have hin3 : (i : Int) < (n : Int) := by omega
  have hlt : i < n := by omega
  obtain ⟨e0, e2⟩ := CI.out i hlt
  have hcs : (H.t.s i = 1 ∧ (H.t.g i : Int) = g ∧ E = 0) ∨ (H.t.s i = 1 ∧ (H.t.g i : Int) ≠ g ∧ E = 7) ∨ (H.t.s i ≠ 1 ∧ E = 7) := by
    rw [← hE']
    unfold Tb.chk
    rw [if_neg (by rw [HN.out]; omega)]
    simp only [Int.toNat_natCast]
    by_cases h1 : H.t.s i = 1
    · by_cases h2 : (H.t.g i : Int) = g
      · exact .inl ⟨h1, h2, if_pos ⟨h1, h2⟩⟩
      · exact .inr (.inl ⟨h1, h2, if_neg fun e => h2 e.2⟩)
    · exact .inr (.inr ⟨h1, if_neg fun e => h1 e.1⟩)
  clear hE' hs CI
  rcases hcs with ⟨h1, h2, rfl⟩ | ⟨h1, h2, rfl⟩ | ⟨h1, rfl⟩
  · rw [h1] at e0
    have j0 : W.cell? ⟨d, i * 13, none⟩ = some (.bool true) := e0
    clear e0 h1
    rw [h2] at e2
    clear h2
    go_enter Try.func44, Try.ntmps44
    go_upto_region 1 with fail
    rw [HW.out]
    go_upto_region 3 with (go_at_call 38; refine HV.out.mono ?_; rintro e w2 ⟨rfl, rfl⟩)
    go_quiet (fail)
    go_upto_region 5 with fail
    go_quiet (fail)
    go_wp2
    go_ret
    exact ⟨rfl, dh_tr HB.out (dh_tr (bel_drn W _) (bel_drn _ _))⟩
  · rw [h1] at e0
    have j0 : W.cell? ⟨d, i * 13, none⟩ = some (.bool true) := e0
    have hne : ((H.t.g i : Int) == g) = false := by simpa using h2
    clear e0 h1
    generalize H.t.g i = fg at *
    go_enter Try.func44, Try.ntmps44
    go_upto_region 1 with fail
    rw [HW.out]
    go_upto_region 3 with (go_at_call 38; refine HV.out.mono ?_; rintro e w2 ⟨rfl, rfl⟩)
    go_quiet (fail)
    go_upto_region 5 with fail
    go_quiet (fail)
    go_wp2
    go_ret
    exact ⟨rfl, dh_tr HB.out (dh_tr (bel_drn W _) (bel_drn _ _))⟩
  · have hb : (H.t.s i == 1) = false := by simp [h1]
    rw [hb] at e0
    clear h1 hb
    generalize H.t.g i = fg at *
    go_enter Try.func44, Try.ntmps44
    go_upto_region 1 with fail
    rw [HW.out]
    go_upto_region 3 with (go_at_call 38; refine HV.out.mono ?_; rintro e w2 ⟨rfl, rfl⟩)
    go_quiet (fail)
    go_upto_region 5 with fail
    go_quiet (fail)
    go_wp2
    go_ret
    exact ⟨rfl, dh_tr HB.out (dh_tr (bel_drn W _) (bel_drn _ _))⟩
theorem dh_has (c d : Nat) (H : Hp) (s g : Int) (x : Bool) (hx : (H.chk (s, g) == 0) = x) (w : World) (h : EW w c d H) : Calls Try.prog 53 #[.pointer (some ⟨c, 0, none⟩), .agg #[.int .i64 s, .int .u32 g]] w fun e w' => e = .returned (.bool x) ∧ Below w.heap.size w w' := by
  obtain ⟨E, hE⟩ : ∃ E, H.chk (s, g) = E := ⟨_, rfl⟩
  rw [hE] at hx
  have HX := Lib.hid hx
  clear hx
  have HB := Lib.hid (bel_new w (.cells #[.int .i64 s, .int .u32 g] 34))
  have CK := Lib.hid (dh_chk c d H s g E hE _ (h.below HB.out))
  have hbx := Bk.new w 34 #[.int .i64 s, .int .u32 g]
  have q0 : (w.alloc (.cells #[.int .i64 s, .int .u32 g] 34)).cell? ⟨w.heap.size, 0, none⟩ = some (.int .i64 s) := hbx.cell 0
  have q1 : (w.alloc (.cells #[.int .i64 s, .int .u32 g] 34)).cell? ⟨w.heap.size, 1, none⟩ = some (.int .u32 g) := hbx.cell 1
  clear h hE hbx
  go_enter Try.func53, Try.ntmps53
  go_wp2_with (go_at_call 44; refine CK.out.mono ?_; rintro e w2 ⟨rfl, hb2⟩; have HB2 := Lib.hid (dh_tr HB.out hb2); clear hb2)
  go_ret
  exact ⟨by rw [← HX.out]; rfl, HB2.out⟩
set_option maxHeartbeats 2000000 in
theorem dh_obj (c d : Nat) (H : Hp) (s g : Int) (o : Ob) (E : Int) (ho : H.obj (s, g) = o) (hE : H.chk (s, g) = E) (w : World) (h : EW w c d H) : Calls Try.prog 46 #[.pointer (some ⟨c, 0, none⟩), .agg #[.int .i64 s, .int .u32 g]] w fun e w' => e = .returned (.tuple #[.agg #[.int .i64 o.n, .int .i64 o.a.1, .int .u32 o.a.2, .int .i64 o.b.1, .int .u32 o.b.2, .int .i64 o.c.1, .int .u32 o.c.2, .int .i64 o.d.1, .int .u32 o.d.2, .bool o.h], .int .i64 E]) ∧ Below w.heap.size w w' := by
  obtain ⟨W, hW⟩ : ∃ W, (w.alloc (.cells #[.int .i64 s, .int .u32 g] 34)).alloc (.cells (obc ob0) 86) = W := ⟨_, rfl⟩
  have hbw : Below w.heap.size w W := by rw [← hW]; exact (bel_new w _).alloc (by simp) _
  have hbx : Bk W w.heap.size 34 #[.int .i64 s, .int .u32 g] := by rw [← hW]; exact (Bk.new w _ _).below (bel_new _ _)
  have hbo : Bk W (w.heap.size + 1) 86 (obc ob0) := by
    rw [← hW]
    have := Bk.new (w.alloc (.cells #[.int .i64 s, .int .u32 g] 34)) 86 (obc ob0)
    rwa [World.size_alloc] at this
  have HWD := Lib.hid h
  have HB := Lib.hid hbw
  have BX := Lib.hid hbx
  have BO := Lib.hid hbo
  have CK : Hid (Calls Try.prog 44 #[.pointer (some ⟨c, 0, none⟩), .agg #[.int .i64 s, .int .u32 g]] W fun e w' => e = .returned (.int .i64 E) ∧ Below W.heap.size W w') := dh_chk c d H s g E hE W (h.below hbw)
  have q0 : W.cell? ⟨w.heap.size, 0, none⟩ = some (.int .i64 s) := hbx.cell 0
  have q1 : W.cell? ⟨w.heap.size, 1, none⟩ = some (.int .u32 g) := hbx.cell 1
  unfold obc ob0 at hW
  have HW := Lib.hid hW
  have HC := Lib.hid (And.intro ho hE)
  clear h hbw hbx hbo hW ho hE
  by_cases h0 : E = 0
  · subst h0
    obtain ⟨ho, hE⟩ := HC.out
    obtain ⟨i, e1, hin, his, e2, e3⟩ := Hp.chk_zero hE
    simp only at e1 e2
    subst e1
    have hox : H.ox i = o := by
      unfold Hp.ox
      rw [if_pos his, ← ho]
      unfold Hp.obj
      rw [if_pos hE]
      exact (H.at_nat i g).symm
    have hn256 := HWD.out.ok.t.hi
    obtain ⟨n, hn⟩ : ∃ n, H.t.n = n := ⟨_, rfl⟩
    have CE : Hid (∀ X, Below W.heap.size W X → ∃ cap, X.cell? ⟨c, 1, none⟩ = some (.slice (some ⟨d, 0, none⟩) n cap) ∧ n ≤ cap ∧ cap ≤ 9223372036854775807 ∧ Ten X d (i * 13 + 3) o) := fun X hX => by
      have h2 := HWD.out.below (dh_tr HB.out hX)
      obtain ⟨cap, _, c1, hc1, hc2⟩ := h2.c0
      have := h2.co hin
      rw [hox] at this
      rw [hn] at c1 hc1
      exact ⟨cap, c1, hc1, hc2, this⟩
    have hlt : (i : Int) < (n : Int) := by omega
    clear ho hE hin his e2 e3 hox hn HC
    go_enter Try.func46, Try.ntmps46
    go_upto_region 1 with fail
    rw [HW.out]
    go_upto_region 4 with (go_at_call 44; refine CK.out.mono ?_; rintro e w2 ⟨rfl, hb2⟩; have HB2 := Lib.hid hb2; clear hb2)
    obtain ⟨cap, c1, hc1, hc2, t0, t1, t2, t3, t4, t5, t6, t7, t8, t9⟩ := CE.out w2 HB2.out
    obtain ⟨r0, r1⟩ : w2.cell? ⟨w.heap.size, 0, none⟩ = some (.int .i64 (i : Nat)) ∧ w2.cell? ⟨w.heap.size, 1, none⟩ = some (.int .u32 g) := ⟨(BX.out.below HB2.out).cell 0, (BX.out.below HB2.out).cell 1⟩
    obtain ⟨a0, a1, a2, a3, a4, a5, a6, a7, a8, a9⟩ := (BO.out.below HB2.out).ob
    obtain ⟨f0, f1, f2, f3, f4, f5, f6, f7, f8, f9⟩ := (BO.out.below HB2.out).ofz
    have hsz : w.heap.size + 1 < w2.heap.size := (BO.out.below HB2.out).lt
    have BB := Lib.hid (dh_tr HB.out HB2.out)
    clear q0 q1
    go_region
    all_goals
      go_wp2
      refine bodyPost_ret (v := .tuple #[.agg #[.int .i64 o.n, .int .i64 o.a.1, .int .u32 o.a.2, .int .i64 o.b.1, .int .u32 o.b.2, .int .i64 o.c.1, .int .u32 o.c.2, .int .i64 o.d.1, .int .u32 o.d.2, .bool o.h], .int .i64 0]) ?_ rfl ⟨rfl, ?_⟩
      · rw [results_cell_tmp rfl]
        go_simp
      · exact bel_dw (bel10 BB.out (Nat.le_succ _) _ _ _ _ _ _ _ _ _ _)
  · have h0b : (E == 0) = false := by simpa using h0
    obtain ⟨ho, hE⟩ := HC.out
    obtain rfl : ob0 = o := by
      rw [← ho]; unfold Hp.obj; rw [if_neg (by rw [hE]; exact h0)]
    clear ho hE HC
    go_enter Try.func46, Try.ntmps46
    go_upto_region 1 with fail
    rw [HW.out]
    go_upto_region 2 with (go_at_call 44; refine CK.out.mono ?_; rintro e w2 ⟨rfl, hb2⟩; have HB2 := Lib.hid hb2; clear hb2)
    obtain ⟨a0, a1, a2, a3, a4, a5, a6, a7, a8, a9⟩ := (BO.out.below HB2.out).ob
    obtain ⟨f0, f1, f2, f3, f4, f5, f6, f7, f8, f9⟩ := (BO.out.below HB2.out).ofz
    simp only [ob0] at a0 a1 a2 a3 a4 a5 a6 a7 a8 a9
    have hsz : w.heap.size + 1 < w2.heap.size := (BO.out.below HB2.out).lt
    have BB := Lib.hid (dh_tr HB.out HB2.out)
    go_wp2
    refine bodyPost_ret (v := .tuple #[.agg #[.int .i64 0, .int .i64 0, .int .u32 0, .int .i64 0, .int .u32 0, .int .i64 0, .int .u32 0, .int .i64 0, .int .u32 0, .bool false], .int .i64 E]) ?_ rfl ⟨rfl, ?_⟩
    · rw [results_cell_tmp rfl]
      go_simp
    · exact bel10 BB.out (Nat.le_succ _) _ _ _ _ _ _ _ _ _ _
end Go.Proofs.Ytfnhkapbfgofkaa
