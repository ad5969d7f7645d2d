/- The contract of the document's Set. -/
import Derived.Test.YtlnjgbdekcgmpaaEv
import Derived.Deep.RegionHeld3
namespace Go.Proofs.Ytlnjgbdekcgmpaa
open Go.RowKit

theorem pos_eq {L : List En} (hs : Srt L) {x : En} {j : Nat} (hj : j ≤ L.length) (h1 : ∀ k y, k < j → L[k]? = some y → lt y x = true) (h2 : ∀ y, L[j]? = some y → lt y x = false) : pos L x = j := by
  unfold pos
  have e : L = L.take j ++ L.drop j := (List.take_append_drop j L).symm
  have e1 : (L.take j).countP (fun e => lt e x) = (L.take j).length := by
    rw [List.countP_eq_length]
    intro y hy
    obtain ⟨k, hk, rfl⟩ := List.mem_iff_getElem.1 hy
    rw [List.length_take] at hk
    rw [List.getElem_take]
    exact h1 k _ (by omega) (List.getElem?_eq_getElem (by omega))
  have e2 : (L.drop j).countP (fun e => lt e x) = 0 := by
    rw [List.countP_eq_zero]
    intro y hy
    obtain ⟨k, hk, rfl⟩ := List.mem_iff_getElem.1 hy
    rw [List.length_drop] at hk
    rw [List.getElem_drop]
    have hjl : j < L.length := by omega
    have h3 := h2 _ (List.getElem?_eq_getElem hjl)
    rcases Nat.eq_zero_or_pos k with rfl | hk0
    · rw [show L[j + 0] = L[j] from rfl, h3]; decide
    · intro h4
      have h5 := List.pairwise_iff_getElem.1 (hs.pre x) j (j + k) hjl (by omega) (by omega) h4
      rw [h3] at h5; cases h5
  conv => lhs; rw [e]
  rw [List.countP_append, e1, e2, List.length_take]
  omega

/-- The entries ahead of a place, and those behind it. -/
theorem rd_take {w : World} {b c : Nat} {a : Option Addr} {L : List En} (h : RqW w b (.slice a L.length c) L) (j : Nat) (hj : j ≤ L.length) : RdN w a j c (L.take j) := by
  obtain ⟨a', c', e, h1, h2, h3, _⟩ := h.form
  injection e with e1 e2 e3
  subst e1 e3
  rcases h3 with ⟨rfl, rfl⟩ | ⟨g, rfl, _⟩
  · exact ⟨by rw [List.length_take]; omega, .inl ⟨rfl, by omega, rfl⟩⟩
  · have := rd_part h 0 j (Nat.zero_le _) hj ⟨g, 0, none⟩ (fun _ => rfl) c
    simpa using this
theorem rd_drop {w : World} {b c : Nat} {a : Option Addr} {L : List En} (h : RqW w b (.slice a L.length c) L) (j : Nat) (hj : j ≤ L.length) : RdN w (if c = j then a else a.map (·.add (j * 2))) (L.length - j) (c - j) (L.drop j) := by
  obtain ⟨a', c', e, h1, h2, h3, _⟩ := h.form
  injection e with e1 e2 e3
  subst e1 e3
  rcases h3 with ⟨rfl, rfl⟩ | ⟨g, rfl, _⟩
  · refine ⟨by rw [List.length_drop], .inl ⟨?_, by omega, by omega⟩⟩
    split <;> rfl
  · have e : (if c = j then some (⟨g, 0, none⟩ : Addr) else (some (⟨g, 0, none⟩ : Addr)).map (·.add (j * 2))) = some (if c = j then ⟨g, 0, none⟩ else ⟨g, j * 2, none⟩) := by
      split
      · rfl
      · simp [Addr.add]
        omega
    rw [e]
    have := rd_part h j L.length hj (Nat.le_refl _) (if c = j then ⟨g, 0, none⟩ else ⟨g, j * 2, none⟩) (fun h => if_neg (by omega)) (c - j)
    rwa [List.take_of_length_le (l := L.drop j) (by rw [List.length_drop]; exact Nat.le_refl _)] at this
theorem rd_blk {w : World} {g : Nat} {x : En} (h : Bk w g 63 #[.int .i64 x.1, .int .i64 x.2]) : RdN w (some ⟨g, 0, none⟩) 1 1 [x] := by
  refine ⟨rfl, .inr ⟨_, rfl, fun j u hj => ?_⟩⟩
  rcases j with _ | _ | j
  · exact (h.cell 0).trans hj
  · exact (h.cell 1).trans hj
  · simp [cl2] at hj
theorem RPost.trans {b : Nat} {v v' : Value} {N : List En} {w w2 W W' : World} (h1 : Kept (· = b) w w2) (h2 : ∀ g, v'.ownBlock = some g → v.ownBlock = some g ∨ w.heap.size ≤ g) (hB : Below w2.heap.size w2 W) (h : RPost b v' N W W') : RPost b v N w W' := by
  obtain ⟨u, k1, k2, k3⟩ := h
  refine ⟨u, k1, (h1.trans (Kept.of_below (S := (· = b)) hB)).trans k2, fun g hg => ?_⟩
  rcases k3 g hg with e | e
  · exact h2 g e
  · exact .inr (Nat.le_trans (Nat.le_trans h1.size hB.size) e)

/-- While the region of Set runs: pre are the slots ahead of it. -/
def JS (w : World) (b X j : Nat) (i t : Int) (M : List En) (V s60 s70 : Value) (s9 s10 s11 s12 s13 s14 s15 s16 s17 s18 s19 s20 s21 s22 s23 s24 s25 s26 s27 s28 s29 s30 s31 s32 s33 s34 s35 s36 s37 s38 s39 s40 s41 s42 s43 s44 s45 s46 s47 s48 s49 s50 s51 s52 : Value) (f : Nat → Bool) (a : Act) (W : World) : Prop :=
  ∃ x54 x61 x63 x64 x71, a = ⟨#[.pointer (some ⟨b, 0, none⟩), .int .i64 i, .int .i64 t, undef, undef, undef, .int .i64 0, .pointer (some ⟨X, 0, none⟩), .int .i64 j, s9, s10, s11, s12, s13, s14, s15, s16, s17, s18, s19, s20, s21, s22, s23, s24, s25, s26, s27, s28, s29, s30, s31, s32, s33, s34, s35, s36, s37, s38, s39, s40, s41, s42, s43, s44, s45, s46, s47, s48, s49, s50, s51, s52, sel (f 0) (.pointer (some ⟨b, 0, none⟩)), sel (f 1) x54, sel (f 2) (.pointer (some ⟨b, 0, none⟩)), sel (f 3) (.pointer (some ⟨b, 0, none⟩)), sel (f 4) (.pointer (some ⟨b, 1, none⟩)), sel (f 5) V, sel (f 6) (.int .i64 j), sel (f 7) s60, sel (f 8) x61, sel (f 9) (.agg #[.int .i64 i, .int .i64 t]), sel (f 10) x63, sel (f 11) x64, sel (f 12) (.pointer (some ⟨b, 0, none⟩)), sel (f 13) (.pointer (some ⟨b, 0, none⟩)), sel (f 14) (.pointer (some ⟨b, 1, none⟩)), sel (f 15) V, sel (f 16) (.int .i64 j), sel (f 17) s70, sel (f 18) x71, sel (f 19) (.pointer (some ⟨b, 0, none⟩)), sel (f 20) (.pointer (some ⟨b, 1, none⟩))], []⟩ ∧ Below w.heap.size w W ∧
    (f 1 = true → f 8 = false → W.ownsRow w.heap.size 63 2 x54 0 (cl2 [])) ∧
    (f 8 = true → f 11 = false → W.ownsRow w.heap.size 63 2 x61 (M.take j).length (cl2 (M.take j))) ∧
    (f 11 = true → f 18 = false → W.ownsRow w.heap.size 63 2 x64 (M.take j ++ [(i, t)]).length (cl2 (M.take j ++ [(i, t)]))) ∧
    (f 18 = true → W.ownsRow w.heap.size 63 2 x71 (M.take j ++ [(i, t)] ++ M.drop j).length (cl2 (M.take j ++ [(i, t)] ++ M.drop j))) ∧
    (f 10 = true → f 11 = false → ∃ gx, x63 = .slice (some ⟨gx, 0, none⟩) 1 1 ∧ Bk W gx 63 #[.int .i64 i, .int .i64 t] ∧ (f 1 = true → f 8 = false → x54.ownBlock ≠ some gx) ∧ (f 8 = true → x61.ownBlock ≠ some gx))

set_option maxHeartbeats 8000000 in
set_option maxRecDepth 1000000 in
theorem rset_go (D : Bool) (b : Nat) (v : Value) (L : List En) (i t : Int) (w : World) (hs : Srt (del L i)) (h : RqW w b v L) (hi : I64 i) (ht0 : 0 ≤ t) (ht1 : t ≤ 1099511627776) (hlen : (del L i).length < 256)
    (hd : Calls Try.prog 17 #[.pointer (some ⟨b, 0, none⟩), .int .i64 i] w fun e w' => e = .returned (.bool D) ∧ RPost b v (del L i) w w') :
    Calls Try.prog 15 #[.pointer (some ⟨b, 0, none⟩), .int .i64 i, .int .i64 t] w fun e w' => e = .returned (.int .i64 0) ∧ RPost b v (set L i t) w w' := by
  have DR := Lib.hid hd
  have VA := Lib.hid (rvalid_ok b v L w h)
  unfold set
  generalize del L i = M at *
  clear h hd
  obtain ⟨n, hn⟩ : ∃ n, M.length = n := ⟨_, rfl⟩
  have HN := Lib.hid hn
  rw [hn] at hlen
  clear hn
  have HS := Lib.hid hs
  have HI := Lib.hid hi
  clear hs hi
  cases D
  all_goals
    go_enter Try.func15, Try.ntmps15
    go_wp2_with (first
      | (go_at_call 32; refine VA.out.mono ?_; rintro e w' ⟨rfl, rfl⟩)
      | (go_at_call 17; refine DR.out.mono ?_; rintro e w2 ⟨rfl, v2, hq, hk, hv⟩; obtain ⟨a, c, rfl, hc1, hc2, hac, hcell⟩ := hq.form; have hcv := hq.c1; have HH := Lib.hid (And.intro hq (And.intro hk (And.intro hv (And.intro hac hcell)))); rw [HN.out] at hcv hc1; have hcm : c ≤ 9223372036854775807 := (by unfold maxLen at hc2; omega); clear hq hk hv hac hcell hc2))
    rename_i K hK
    obtain ⟨w3, hw3⟩ : ∃ w3, w2.alloc (.cells #[.int .i64 i, .int .i64 t] 63) = w3 := ⟨_, rfl⟩
    obtain ⟨X, hX⟩ : ∃ X, w2.heap.size = X := ⟨_, rfl⟩
    have HX : Hid (Bk w3 X 63 #[.int .i64 i, .int .i64 t] ∧ Below w2.heap.size w2 w3) := by rw [← hw3, ← hX]; exact ⟨Bk.new _ _ _, (Below.refl _ _).alloc (Nat.le_refl _) _⟩
    rw [hw3]
    simp only [hX]
    clear DR VA hw3 hX
    have FIN : ∀ (s9 s10 s11 s12 s13 s14 s15 s16 s17 s18 s19 s20 s21 s22 s23 s24 s25 s26 s27 s28 s29 s30 s31 s32 s33 s34 s35 s36 s37 s38 s39 s40 s41 s42 s43 s44 s45 s46 s47 s48 s49 s50 s51 s52 : Value) (j : Nat) (W : World), j ≤ n → pos M (i, t) = j → Below w3.heap.size w3 W → K ⟨#[.pointer (some ⟨b, 0, none⟩), .int .i64 i, .int .i64 t, undef, undef, undef, .int .i64 0, .pointer (some ⟨X, 0, none⟩), .int .i64 j, s9, s10, s11, s12, s13, s14, s15, s16, s17, s18, s19, s20, s21, s22, s23, s24, s25, s26, s27, s28, s29, s30, s31, s32, s33, s34, s35, s36, s37, s38, s39, s40, s41, s42, s43, s44, s45, s46, s47, s48, s49, s50, s51, s52, undef, undef, undef, undef, undef, undef, undef, undef, undef, undef, undef, undef, undef, undef, undef, undef, undef, undef, undef, undef, undef], []⟩ W := by
      intro s9 s10 s11 s12 s13 s14 s15 s16 s17 s18 s19 s20 s21 s22 s23 s24 s25 s26 s27 s28 s29 s30 s31 s32 s33 s34 s35 s36 s37 s38 s39 s40 s41 s42 s43 s44 s45 s46 s47 s48 s49 s50 s51 s52 j W hj hp hB
      refine hK _ _ ?_
      clear hK
      have hq : RqW W b (.slice a n c) M := by
        have := (HH.out.1.below HX.out.2).below hB
        rwa [HN.out] at this
      have hbx := HX.out.1.below hB
      have hq' : RqW W b (.slice a M.length c) M := by rw [HN.out]; exact hq
      have R1 : Hid (∀ W', Below W.heap.size W W' → RdN W' a j c (M.take j)) := fun W' hB' => rd_take (hq'.below hB') j (by rw [HN.out]; exact hj)
      obtain ⟨a70, ha70⟩ : ∃ a70, (if c = j then a else a.map (·.add (j * 2))) = a70 := ⟨_, rfl⟩
      have R2 : Hid (∀ W', Below W.heap.size W W' → RdN W' a70 (n - j) (c - j) (M.drop j)) := fun W' hB' => by
        have := rd_drop (hq'.below hB') j (by rw [HN.out]; exact hj)
        rwa [HN.out, ha70] at this
      have CV : Hid (∀ W', Below W.heap.size W W' → W'.cell? ⟨b, 1, none⟩ = some (.slice a n c) ∧ W'.frozen? ⟨b, 1, none⟩ = false ∧ W'.cell? ⟨X, 0, none⟩ = some (.int .i64 i) ∧ W'.cell? ⟨X, 1, none⟩ = some (.int .i64 t)) := fun W' hB' => ⟨(hq.below hB').c1, (hq.below hB').hb.frozen 1, (hbx.below hB').cell 0, (hbx.below hB').cell 1⟩
      have hml : (M.take j).length = j ∧ (M.drop j).length = n - j := by rw [List.length_take, List.length_drop, HN.out]; exact ⟨by omega, rfl⟩
      have PO : Hid (∀ W' u, Below W.heap.size W W' → W'.ownsRow W.heap.size 63 2 u (M.take j ++ [(i, t)] ++ M.drop j).length (cl2 (M.take j ++ [(i, t)] ++ M.drop j)) → RPost b v (ins M (i, t)) w (W'.setCell ⟨b, 1, none⟩ u)) := fun W' u hB' ho => by
        have e : ins M (i, t) = M.take j ++ [(i, t)] ++ M.drop j := by rw [ins_eq HS.out, hp, List.append_assoc]; rfl
        rw [e]
        refine RPost.trans HH.out.2.1 (by rw [← HN.out]; exact HH.out.2.2.1) (bel2 HX.out.2 hB) (rpost_of hq hB' ho (fun e he => ?_) ?_)
        · rcases List.mem_append.1 he with h1 | h1
          · rcases List.mem_append.1 h1 with h1 | h1
            · exact hq.rg e (List.mem_of_mem_take h1)
            · obtain rfl := List.mem_singleton.1 h1
              exact ⟨HI.out, by unfold I64; omega⟩
          · exact hq.rg e (List.mem_of_mem_drop h1)
        · rw [List.length_append, List.length_append, hml.1, hml.2]; simp only [List.length_cons, List.length_nil]; omega
      have HML := Lib.hid hml
      have hjc : j ≤ c := by omega
      clear hq hq' hbx hml hp hB HH HX HN HS HI hcv
      go_wp2
      refine region_last 21 (JS W b X j i t M (.slice a n c) (.slice a j c) (.slice a70 (n - j) (c - j)) s9 s10 s11 s12 s13 s14 s15 s16 s17 s18 s19 s20 s21 s22 s23 s24 s25 s26 s27 s28 s29 s30 s31 s32 s33 s34 s35 s36 s37 s38 s39 s40 s41 s42 s43 s44 s45 s46 s47 s48 s49 s50 s51 s52) (by kernel_rfl) rfl ?_ ?_ ?_ ?_ ?_
      · intro i' o ho
        rcases i' with _ | _ | _ | _ | _ | _ | _ | _ | _ | _ | _ | _ | _ | _ | _ | _ | _ | _ | _ | _ | _ | _ | i'
        all_goals simp at ho
        all_goals subst ho
        all_goals simp [Region.binds]
      · intro f hcl hp i' hi'
        have h1 := hp _ rfl
        have h2 := fun h => hcl 20 _ rfl h
        simp [Region.binds] at h1 h2
        obtain ⟨k20, k18, k0, k1, k2, k3, k4, k5, k6, k7, k8, k9, k10, k11, k12, k13, k14, k15, k16, k17, _⟩ := h1
        obtain ⟨k19, _⟩ := h2 k20
        rcases i' with _ | _ | _ | _ | _ | _ | _ | _ | _ | _ | _ | _ | _ | _ | _ | _ | _ | _ | _ | _ | _ | i'
        all_goals try simp only [Nat.zero_add, Nat.reduceAdd] at hi' ⊢
        all_goals first | assumption | omega
      · exact ⟨undef, undef, undef, undef, undef, rfl, bel_drew (Below.refl _ _), (fun h => by cases h), (fun h => by cases h), (fun h => by cases h), (fun h => by cases h), (fun h => by cases h)⟩
      · rintro f A W' ⟨x54, x61, x63, x64, x71, rfl, hB, h54, h61, h64, h71, h63⟩ hcl i' o ho hi' hfi hpre
        obtain ⟨hcv, _, hx0, hx1⟩ := CV.out W' hB
        have c8 := fun h => hcl 8 _ rfl h
        have c10 := fun h => hcl 10 _ rfl h
        have c11 := fun h => hcl 11 _ rfl h
        have c18 := fun h => hcl 18 _ rfl h
        simp [Region.binds] at c8 c10 c11 c18
        clear hcl
        rcases i' with _ | _ | _ | _ | _ | _ | _ | _ | _ | _ | _ | _ | _ | _ | _ | _ | _ | _ | _ | _ | _ | i'
        rotate_right
        · exfalso; omega
        all_goals try simp only [Nat.zero_add, Nat.reduceAdd] at hfi ho ⊢
        all_goals simp at ho
        all_goals subst ho
        all_goals simp [Region.binds] at hpre
        all_goals clear hi'
        all_goals try (refine wpOp_of rfl rfl ?_; (try simp only [hpre, sel_true]); go_simp; refine ⟨x54, x61, x63, x64, x71, ?_, hB, h54, h61, h64, h71, h63⟩; simp only [more, sel, hfi, hpre, ha70]; rfl)
        · refine wpOp_of rfl rfl ?_
          go_simp
          have hA : Below W'.heap.size W' (W'.alloc (.cells #[] 63)) := (Below.refl _ _).alloc (Nat.le_refl _) _
          refine ⟨.slice (some ⟨W'.heap.size, 0, none⟩) 0 0, x61, x63, x64, x71, ?_, hB.alloc hB.size _, fun _ _ => World.ownsRow_lit W' #[] 0 hB.size (by decide) rfl, fun h => absurd (c8 h).1 (by rw [hfi]; decide), fun h => absurd (c8 (c11 h).1).1 (by rw [hfi]; decide), fun h => absurd (c8 (c11 (c18 h).1).1).1 (by rw [hfi]; decide), fun h10 h11 => ?_⟩
          · simp only [more, sel, hfi]; rfl
          · obtain ⟨gx, e, hb, _, _⟩ := h63 h10 h11
            exact ⟨gx, e, hb.below hA, fun _ _ e => by have e2 : W'.heap.size = gx := Option.some.inj e; have := hb.lt; omega, fun h => absurd (c8 h).1 (by rw [hfi]; decide)⟩
        · obtain ⟨a', n', c', W2, hrun, hown, hk, hat⟩ := app_w (L := []) (M := M.take j) (h54 hpre.1 hfi) (R1.out W' hB) (by rw [HML.out.1]; simp only [List.length_nil]; omega) hB.size
          refine wpOp_of rfl rfl (Lib.wp_append_run W' _ _ _ _ rfl x54 (.slice a j c) (by simp only [hpre, sel_true]; rfl) (by simp only [hpre, sel_true]; rfl) _ _ hrun ?_)
          refine ⟨x54, .slice a' n' c', x63, x64, x71, ?_, hB.trans (hk.below hB.size fun k e => ((h54 hpre.1 hfi).lt k e).1), fun _ h => absurd h (by simp [more]), fun _ _ => hown, fun h => absurd (c11 h).1 (by rw [hfi]; decide), fun h => absurd (c11 (c18 h).1).1 (by rw [hfi]; decide), fun h10 h11 => ?_⟩
          · simp only [more, sel, hfi, hpre]; rfl
          · obtain ⟨gx, e, hb, n1, _⟩ := h63 h10 h11
            have hne := n1 hpre.1 hfi
            refine ⟨gx, e, hb.kept hk hne, fun _ h => absurd h (by simp [more]), fun _ => ?_⟩
            rcases hat with e | e
            · rw [e]; exact hne
            · rw [e]; intro e2; have := Option.some.inj e2; have := hb.lt; omega
        · have hA : Below W'.heap.size W' (W'.alloc (.cells #[.int .i64 i, .int .i64 t] 63)) := (Below.refl _ _).alloc (Nat.le_refl _) _
          have h11 : f 11 = false := by
            cases h : f 11 with
            | false => rfl
            | true => exact absurd (c11 h).2.1 (by rw [hfi]; decide)
          refine wpOp_of rfl rfl ?_
          simp only [hpre, sel_true]
          go_simp
          refine ⟨x54, x61, .slice (some ⟨W'.heap.size, 0, none⟩) 1 1, x64, x71, ?_, hB.alloc hB.size _, fun k l => own_below (h54 k l) hA, fun k l => own_below (h61 k l) hA, fun h => absurd (show f 11 = true from h) (by rw [h11]; decide), fun h => absurd (c18 h).1 (by rw [h11]; decide), fun _ _ => ⟨W'.heap.size, rfl, Bk.new _ _ _, fun k l e => ?_, fun k e => ?_⟩⟩
          · simp only [more, sel, hfi, hpre, h11]; rfl
          · have := ((h54 k l).lt _ e).2; omega
          · have := ((h61 k h11).lt _ e).2; omega
        · obtain ⟨gx, rfl, hb, _, _⟩ := h63 hpre.2.1 hfi
          obtain ⟨a', n', c', W2, hrun, hown, hk, hat⟩ := app_w (L := M.take j) (M := [(i, t)]) (h61 hpre.1 hfi) (rd_blk (x := (i, t)) hb) (by rw [HML.out.1]; simp only [List.length_cons, List.length_nil]; omega) hB.size
          refine wpOp_of rfl rfl (Lib.wp_append_run W' _ _ _ _ rfl x61 (.slice (some ⟨gx, 0, none⟩) 1 1) (by simp only [hpre, sel_true]; rfl) (by simp only [hpre, sel_true]; rfl) _ _ hrun ?_)
          refine ⟨x54, x61, .slice (some ⟨gx, 0, none⟩) 1 1, .slice a' n' c', x71, ?_, hB.trans (hk.below hB.size fun k e => ((h61 hpre.1 hfi).lt k e).1), fun _ h => absurd (show f 8 = false from h) (by rw [hpre.1]; decide), fun _ h => absurd h (by simp [more]), fun _ _ => hown, fun h => absurd (c18 h).1 (by rw [hfi]; decide), fun _ h => absurd h (by simp [more])⟩
          simp only [more, sel, hfi, hpre]; rfl
        · obtain ⟨a', n', c', W2, hrun, hown, hk, hat⟩ := app_w (L := M.take j ++ [(i, t)]) (M := M.drop j) (h64 hpre.1 hfi) (R2.out W' hB) (by rw [List.length_append, HML.out.1, HML.out.2]; simp only [List.length_cons, List.length_nil]; omega) hB.size
          refine wpOp_of rfl rfl (Lib.wp_append_run W' _ _ _ _ rfl x64 (.slice a70 (n - j) (c - j)) (by simp only [hpre, sel_true]; rfl) (by simp only [hpre, sel_true]; rfl) _ _ hrun ?_)
          refine ⟨x54, x61, x63, x64, .slice a' n' c', ?_, hB.trans (hk.below hB.size fun k e => ((h64 hpre.1 hfi).lt k e).1), fun _ h => absurd (show f 8 = false from h) (by rw [(c11 hpre.1).1]; decide), fun _ h => absurd (show f 11 = false from h) (by rw [hpre.1]; decide), fun _ h => absurd h (by simp [more]), fun _ => hown, fun _ h => absurd (show f 11 = false from h) (by rw [hpre.1]; decide)⟩
          simp only [more, sel, hfi, hpre]; rfl
      · rintro f A W' ⟨x54, x61, x63, x64, x71, rfl, hB, h54, h61, h64, h71, h63⟩ hal
        have kf : ∀ k, k < 21 → f k = true := hal
        have ho := h71 (kf 18 (by decide))
        obtain ⟨hcv, hfz, _, _⟩ := CV.out W' hB
        obtain ⟨a3, n3, c3, rfl⟩ := own_slice ho
        have HP := Lib.hid (PO.out W' _ hB ho)
        refine wpOp_of rfl rfl ?_
        simp only [kf 0 (by decide), kf 1 (by decide), kf 2 (by decide), kf 3 (by decide), kf 4 (by decide), kf 5 (by decide), kf 6 (by decide), kf 7 (by decide), kf 8 (by decide), kf 9 (by decide), kf 10 (by decide), kf 11 (by decide), kf 12 (by decide), kf 13 (by decide), kf 14 (by decide), kf 15 (by decide), kf 16 (by decide), kf 17 (by decide), kf 18 (by decide), kf 19 (by decide), kf 20 (by decide), sel_true]
        clear ho h54 h61 h64 h71 h63 hal kf hB
        go_simp
        go_wp2
        go_ret
        exact ⟨rfl, HP.out⟩
    clear hK
    go_loopw [8] (fun s wr => ∃ j : Nat, j ≤ n ∧ s = .int .i64 j ∧ Hid (Below w3.heap.size w3 wr ∧ ∀ k y, k < j → M[k]? = some y → lt y (i, t) = true)) (fun s _ => n - (intOf s).toNat)
    case atStart => exact ⟨0, Nat.zero_le _, rfl, Below.refl _ _, fun k y hk => absurd hk (Nat.not_lt_zero _)⟩
    case round =>
      obtain ⟨j, hj, rfl, HR⟩ := hrel
      have hb1 : wr.cell? ⟨b, 1, none⟩ = some (.slice a n c) := cell_keeps HR.out.1 (cell_keeps HX.out.2 hcv)
      by_cases hlt : j < n
      · obtain ⟨y, hy⟩ : ∃ y, M[j]? = some y := ⟨_, List.getElem?_eq_getElem (by rw [HN.out]; exact hlt)⟩
        obtain ⟨g, rfl, k1, k2⟩ := HH.out.2.2.2.2 j y hy
        have HY := Lib.hid hy
        obtain ⟨y1, y2⟩ := y
        have CW : Hid (∀ W', Below wr.heap.size wr W' → W'.cell? ⟨b, 1, none⟩ = some (.slice (some ⟨g, 0, none⟩) n c) ∧ W'.cell? ⟨g, j * 2, none⟩ = some (.int .i64 y1) ∧ W'.cell? ⟨g, j * 2 + 1, none⟩ = some (.int .i64 y2) ∧ W'.cell? ⟨X, 0, none⟩ = some (.int .i64 i) ∧ W'.cell? ⟨X, 1, none⟩ = some (.int .i64 t)) := fun W' hB' => ⟨cell_keeps hB' hb1, cell_keeps hB' (cell_keeps HR.out.1 (cell_keeps HX.out.2 k1)), cell_keeps hB' (cell_keeps HR.out.1 (cell_keeps HX.out.2 k2)), ((HX.out.1.below HR.out.1).below hB').cell 0, ((HX.out.1.below HR.out.1).below hB').cell 1⟩
        have hz0 := CW.out wr.drew (bel_drew (Below.refl _ _))
        have BF : Hid (∀ W', Calls Try.prog 33 #[.agg #[.int .i64 y1, .int .i64 y2], .agg #[.int .i64 i, .int .i64 t]] W' fun e w' => e = .returned (.bool (lt (y1, y2) (i, t))) ∧ Below W'.heap.size W' w') := fun W' => before_ok (y1, y2) (i, t) W'
        clear k1 k2 hy hb1 hcv
        cases hb : lt (y1, y2) (i, t)
        · rw [hb] at BF
          go_wp2_with fail
          go_region_held3 (fun W => W.cell? ⟨b, 1, none⟩ = some (.slice (some ⟨g, 0, none⟩) n c) ∧ W.cell? ⟨g, j * 2, none⟩ = some (.int .i64 y1) ∧ W.cell? ⟨g, j * 2 + 1, none⟩ = some (.int .i64 y2) ∧ W.cell? ⟨X, 0, none⟩ = some (.int .i64 i) ∧ W.cell? ⟨X, 1, none⟩ = some (.int .i64 t)) (first | (with_reducible exact hz0) | (with_reducible exact hz1)) (first
            | (go_at_call 33; (with_reducible refine (BF.out _).mono ?_); rintro e w4 ⟨rfl, hb4⟩; have HB4 := Lib.hid (bel2 (bel_drew (Below.refl wr.heap.size wr)) hb4); have hz1 := CW.out w4 HB4.out; clear hb4))
          all_goals
            clear hz0 hz1
            go_wp2_with fail
            refine FIN _ _ _ _ _ _ _ _ _ _ _ _ _ _ _ _ _ _ _ _ _ _ _ _ _ _ _ _ _ _ _ _ _ _ _ _ _ _ _ _ _ _ _ _ j _ hj (pos_eq HS.out (by rw [HN.out]; exact hj) HR.out.2 fun y hy => ?_) (bel2 HR.out.1 HB4.out)
            rw [HY.out] at hy
            obtain rfl := Option.some.inj hy
            exact hb
        · rw [hb] at BF
          go_wp2_with fail
          go_region_held3 (fun W => W.cell? ⟨b, 1, none⟩ = some (.slice (some ⟨g, 0, none⟩) n c) ∧ W.cell? ⟨g, j * 2, none⟩ = some (.int .i64 y1) ∧ W.cell? ⟨g, j * 2 + 1, none⟩ = some (.int .i64 y2) ∧ W.cell? ⟨X, 0, none⟩ = some (.int .i64 i) ∧ W.cell? ⟨X, 1, none⟩ = some (.int .i64 t)) (first | (with_reducible exact hz0) | (with_reducible exact hz1)) (first
            | (go_at_call 33; (with_reducible refine (BF.out _).mono ?_); rintro e w4 ⟨rfl, hb4⟩; have HB4 := Lib.hid (bel2 (bel_drew (Below.refl wr.heap.size wr)) hb4); have hz1 := CW.out w4 HB4.out; clear hb4))
          all_goals
            clear hz0 hz1
            go_wp2_with fail
            go_roundw
            case rel => exact ⟨j + 1, by omega, by go_num, bel2 HR.out.1 HB4.out, fun k y hk hy => by
              rcases Nat.lt_or_ge k j with h | h
              · exact HR.out.2 k y h hy
              · obtain rfl : k = j := by omega
                rw [HY.out] at hy
                obtain rfl := Option.some.inj hy
                exact hb⟩
            case measure => simp [intOf]; omega
      · have hd : decide ((j : Int) < (n : Int)) = false := by simp; omega
        go_wp2_with fail
        go_quiet (fail)
        all_goals
          go_wp2_with fail
          refine FIN _ _ _ _ _ _ _ _ _ _ _ _ _ _ _ _ _ _ _ _ _ _ _ _ _ _ _ _ _ _ _ _ _ _ _ _ _ _ _ _ _ _ _ _ j _ hj (pos_eq HS.out (by rw [HN.out]; exact hj) HR.out.2 fun y hy => ?_) (bel2 HR.out.1 (bel_drewN (Below.refl _ _) _))
          have := (List.getElem?_eq_some_iff.1 hy).1
          rw [HN.out] at this
          omega
theorem rset_neg (b : Nat) (v : Value) (L : List En) (i t : Int) (w : World) (h : RqW w b v L) (ht : t < 0) : Calls Try.prog 15 #[.pointer (some ⟨b, 0, none⟩), .int .i64 i, .int .i64 t] w fun e w' => e = .returned (.int .i64 2) ∧ w = w' := by
  have VA := Lib.hid (rvalid_ok b v L w h)
  clear h
  go_enter Try.func15, Try.ntmps15
  go_wp2_with (go_at_call 32; refine VA.out.mono ?_; rintro e w' ⟨rfl, rfl⟩)
  go_ret
  exact ⟨rfl, rfl⟩
theorem rset_late (b : Nat) (v : Value) (L : List En) (i t : Int) (w : World) (h : RqW w b v L) (ht0 : 0 ≤ t) (ht : 1099511627776 < t) : Calls Try.prog 15 #[.pointer (some ⟨b, 0, none⟩), .int .i64 i, .int .i64 t] w fun e w' => e = .returned (.int .i64 2) ∧ w = w' := by
  have VA := Lib.hid (rvalid_ok b v L w h)
  clear h
  go_enter Try.func15, Try.ntmps15
  go_wp2_with (go_at_call 32; refine VA.out.mono ?_; rintro e w' ⟨rfl, rfl⟩)
  go_ret
  exact ⟨rfl, rfl⟩
theorem rset_full (b : Nat) (v : Value) (L : List En) (i t : Int) (w : World) (h : RqW w b v L) (ht0 : 0 ≤ t) (ht1 : t ≤ 1099511627776) (hl : L.length = 256) (hf : fnd L i = -1) : Calls Try.prog 15 #[.pointer (some ⟨b, 0, none⟩), .int .i64 i, .int .i64 t] w fun e w' => e = .returned (.int .i64 4) ∧ w = w' := by
  have VA := Lib.hid (rvalid_ok b v L w h)
  have DR := Lib.hid (rdrop_miss b v L i w h hf)
  obtain ⟨a, c, rfl, _, hc2, _, _⟩ := h.form
  have hc := h.c1
  rw [hl] at hc
  clear h hf
  go_enter Try.func15, Try.ntmps15
  go_wp2_with (first
    | (go_at_call 32; refine VA.out.mono ?_; rintro e w' ⟨rfl, rfl⟩)
    | (go_at_call 17; refine DR.out.mono ?_; rintro e w' ⟨rfl, rfl⟩))
  go_ret
  exact ⟨rfl, rfl⟩
theorem rset_ok (b : Nat) (v : Value) (L : List En) (i t : Int) (w : World) (hs : Srt L) (hn : Nod L) (hi : I64 i) (h : RqW w b v L) : Calls Try.prog 15 #[.pointer (some ⟨b, 0, none⟩), .int .i64 i, .int .i64 t] w fun e w' => e = .returned (.int .i64 (setE L i t)) ∧ RPost b v (setL L i t) w w' := by
  unfold setL setE
  by_cases h1 : t < 0
  · rw [if_pos (.inl h1), if_neg (by decide)]
    refine (rset_neg b v L i t w h h1).mono ?_
    rintro e w' ⟨rfl, rfl⟩
    exact ⟨rfl, RPost.refl h⟩
  · by_cases h2 : 1099511627776 < t
    · rw [if_pos (.inr h2), if_neg (by decide)]
      refine (rset_late b v L i t w h (by omega) h2).mono ?_
      rintro e w' ⟨rfl, rfl⟩
      exact ⟨rfl, RPost.refl h⟩
    · rw [if_neg (by omega)]
      have hl := h.len
      by_cases h3 : tm L i = none ∧ L.length = 256
      · rw [if_pos h3, if_neg (by decide)]
        have hf : fnd L i = -1 := by
          rcases fnd_cases L i with ⟨k, _⟩ | ⟨_, _, _, _, _, k⟩
          · exact k
          · rw [h3.1] at k; cases k
        refine (rset_full b v L i t w h (by omega) (by omega) h3.2 hf).mono ?_
        rintro e w' ⟨rfl, rfl⟩
        exact ⟨rfl, RPost.refl h⟩
      · rw [if_neg h3, if_pos rfl]
        refine rset_go (tm L i).isSome b v L i t w (hs.del i) h hi (by omega) (by omega) ?_ (rdrop_ok b v L i w hs hn h)
        cases htm : tm L i with
        | none =>
          rw [del_none htm]
          have : L.length ≠ 256 := fun e => h3 ⟨htm, e⟩
          omega
        | some s =>
          have hm := (tm_some hn).1 htm
          have := del_length hs hn hm
          simp only at this
          omega
end Go.Proofs.Ytlnjgbdekcgmpaa
